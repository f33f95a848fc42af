/- slices.Reverse of a list of numbers that lies in a block of the call's own, walked; of a list without numbers. Conditions: the list is short. -/
import Derived.Test.YtnihklilappimaaApp
import Derived.RegionTactic
import Derived.BigRegion
namespace Go.Proofs.Ytnihklilappimaa
open Go.RowKit

theorem gd_lt {α : Type} {l : List α} {k : Nat} {d : α} (h : k < l.length) : l.getD k d = l[k] := by simp [h]
theorem gd_ge {α : Type} {l : List α} {k : Nat} {d : α} (h : l.length ≤ k) : l.getD k d = d := by simp [h]
theorem Row.drew {w : World} {g : Nat} {zs : List Int} (h : Row w g zs) : Row w.drew g zs := ⟨h.lt, h.c, h.f⟩
theorem rev_getD (zs : List Int) (t : Nat) (ht : t < zs.length) : zs.reverse.getD t 0 = zs.getD (zs.length - 1 - t) 0 := by
  rw [gd_lt (by simpa using ht), gd_lt (by omega), List.getElem_reverse]
theorem ext_getD {xs ys : List Int} (hl : xs.length = ys.length) (h : ∀ t, t < xs.length → xs.getD t 0 = ys.getD t 0) : xs = ys := by
  refine List.ext_getElem hl fun t h1 h2 => ?_
  have := h t h1
  rwa [gd_lt h1, gd_lt h2] at this
/-- The first k and the last k of n numbers have changed their places. -/
structure Turned (n k : Nat) (zs ys : List Int) : Prop where
  len : ys.length = n
  at_ : ∀ t, t < n → ys.getD t 0 = if t < k ∨ n ≤ t + k then zs.getD (n - 1 - t) 0 else zs.getD t 0
theorem Turned.start {n : Nat} {zs : List Int} (hz : zs.length = n) : Turned n 0 zs zs := ⟨hz, fun t ht => by rw [if_neg (by omega)]⟩
theorem Turned.step {n k : Nat} {zs ys : List Int} (h : Turned n k zs ys) (hk : k + k + 1 < n) : Turned n (k + 1) zs ((ys.set k (ys.getD (n - 1 - k) 0)).set (n - 1 - k) (ys.getD k 0)) := by
  refine ⟨by rw [List.length_set, List.length_set, h.len], fun t ht => ?_⟩
  rw [getD_set _ _ _ _ (by rw [List.length_set, h.len]; exact ht), getD_set _ _ _ _ (by rw [h.len]; exact ht)]
  by_cases h1 : n - 1 - k = t
  · subst h1
    rw [if_pos rfl, if_pos (by omega), h.at_ k (by omega), if_neg (by omega)]
    congr 1
    omega
  · rw [if_neg h1]
    by_cases h2 : k = t
    · subst h2
      rw [if_pos rfl, if_pos (by omega), h.at_ (n - 1 - k) (by omega), if_neg (by omega)]
    · rw [if_neg h2, h.at_ t ht]
      by_cases h3 : t < k ∨ n ≤ t + k
      · rw [if_pos h3, if_pos (by omega)]
      · rw [if_neg h3, if_neg (by omega)]
theorem Turned.all {n k : Nat} {zs ys : List Int} (h : Turned n k zs ys) (hz : zs.length = n) (hk : n ≤ k + k + 1) : ys = zs.reverse := by
  refine ext_getD (by rw [h.len, List.length_reverse, hz]) fun t ht => ?_
  rw [h.len] at ht
  rw [h.at_ t ht, rev_getD zs t (by omega), hz]
  split
  · rfl
  · next h1 =>
    have : n - 1 - t = t := by omega
    rw [this]
set_option maxHeartbeats 1600000 in
theorem Reverse_any (g n c : Nat) (zs : List Int) (hz : zs.length = n) (hn : n ≤ 1000000) (w : World) (h : Row w g zs) :
    Calls Try.prog 43 #[.slice (some ⟨g, 0, none⟩) n c] w fun e w' => e = .returned (.tuple #[]) ∧ Row w' g zs.reverse ∧ w.grownBy w' (some g) := by
  have HR := Lib.hid h
  have HZ := Lib.hid hz
  clear h hz
  go_enter Try.func43, Try.ntmps43
  go_wp2
  go_loopw [2, 3] (fun i j wr => ∃ (k : Nat) (jz : Int) (ys : List Int), i = .int .i64 k ∧ j = .int .i64 jz ∧ jz ≤ (n : Int) - 1 - k ∧ (n : Int) - 1 - k ≤ jz ∧ k ≤ n ∧ Hid (Turned n k zs ys) ∧ Hid (Row wr g ys) ∧ Hid (w.grownBy wr (some g))) (fun i _ _ => n - (intOf i).toNat)
  case atStart => exact ⟨0, (n : Int) - 1, zs, rfl, rfl, by omega, by omega, Nat.zero_le _, Lib.hid (Turned.start HZ.out), HR, Lib.hid (World.grownBy.refl _ _)⟩
  case round =>
    obtain ⟨k, jz, ys, rfl, rfl, j1, j2, hk, HT, HY, HG⟩ := hrel
    have k0 : (0 : Int) ≤ (k : Int) := by omega
    by_cases hlt : k + k + 1 < n
    · obtain ⟨jn, rfl⟩ : ∃ jn : Nat, jz = (jn : Int) := ⟨n - 1 - k, by omega⟩
      have ej : n - 1 - k = jn := by omega
      have HS := HT.out.step hlt
      rw [ej] at HS
      replace HS := Lib.hid HS
      have e1 := HY.out.c k (by rw [HT.out.len]; omega)
      have e2 := HY.out.c jn (by rw [HT.out.len]; omega)
      have f1 := HY.out.f k (by rw [HT.out.len]; omega)
      have f2 := HY.out.f jn (by rw [HT.out.len]; omega)
      have RS := Lib.hid ((((HY.out.drew).set_ (k := k) (by rw [HT.out.len]; omega) (ys.getD jn 0)).set_ (k := jn) (by rw [List.length_set, HT.out.len]; omega) (ys.getD k 0)))
      have GS := Lib.hid (own_set (own_set (only_drew HG.out) (g := g) (k := k) (.int .i64 (ys.getD jn 0))) (k := jn) (.int .i64 (ys.getD k 0)))
      have c1 : (k : Int) < (jn : Int) := by omega
      have c2 : (jn : Int) < (n : Int) := by omega
      have c3 : (k : Int) < (n : Int) := by omega
      clear hlt j1 j2
      generalize ys.getD jn 0 = z2 at e2 RS GS HS
      generalize ys.getD k 0 = z1 at e1 RS GS HS
      go_wp2_with fail
      go_region
      go_wp2
      go_roundw
      case rel => exact ⟨k + 1, (jn : Int) - 1, _, by go_num, rfl, by omega, by omega, by omega, HS, RS, GS⟩
      case measure => simp [intOf]; omega
    · have EY := Lib.hid (HT.out.all HZ.out (by omega))
      have c1 : jz ≤ (k : Int) := by omega
      clear j1 j2
      go_wp2
      go_end0
      exact ⟨rfl, by rw [← EY.out]; exact HY.out, HG.out⟩
set_option maxHeartbeats 400000 in
theorem ReverseNone_any (A : Option Addr) (c : Nat) (w : World) :
    Calls Try.prog 43 #[.slice A 0 c] w fun e w' => e = .returned (.tuple #[]) ∧ w = w' := by
  go_enter Try.func43, Try.ntmps43
  go_wp2
  go_loopw [2, 3] (fun i j wr => i = .int .i64 0 ∧ j = .int .i64 (-1) ∧ wr = w) (fun _ _ _ => 0)
  case atStart => exact ⟨rfl, rfl, rfl⟩
  case round =>
    obtain ⟨rfl, rfl, rfl⟩ := hrel
    go_wp2
    go_end0
    exact ⟨rfl, rfl⟩
end Go.Proofs.Ytnihklilappimaa
