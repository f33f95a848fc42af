/- The helpers of the exact laws that compare, mark and look at slices of whole numbers (eqIntS, markIntS, heldIntS). Conditions: the slices can be read; the marked slice lies in a block of the call's own. -/
import Derived.Test.YtecnhjofgkhlnaaOwn
namespace Go.Proofs.Ytecnhjofgkhlnaa
open Go.RowKit

set_option maxHeartbeats 1000000 in
theorem eqIntS_any (A B : Option Addr) (n m c d : Nat) (xs ys : List Int) (hn : n ≤ 1048576) (hm : m ≤ 1048576) (w : World) (hx : Ints w A n xs) (hy : Ints w B m ys) :
    Calls Try.prog 28 #[.slice A n c, .slice B m d] w fun e w' => e = .returned (.bool (decide (xs = ys))) ∧ New w w' := by
  by_cases hnm : n = m
  · subst hnm
    have HX := Lib.hid hx; have HY := Lib.hid hy
    have lx := hx.len; have ly := hy.len
    have LX := Lib.hid lx; have LY := Lib.hid ly
    clear hx hy lx ly
    go_enter Try.func28, Try.ntmps28
    go_wp2
    go_loopw [5] (fun i wr => ∃ k : Nat, k ≤ n ∧ i = .int .i64 k ∧ Hid (xs.take k = ys.take k) ∧ ∃ q, wr = w.drewN q) (fun i _ => n - (intOf i).toNat)
    case atStart => exact ⟨0, Nat.zero_le _, rfl, Lib.hid (by simp), 0, rfl⟩
    case round =>
      obtain ⟨k, hk, rfl, HE, q, rfl⟩ := hrel
      by_cases hlt : k < n
      · obtain ⟨b, off, rfl, hb, hc⟩ := HX.out.at_ (by omega)
        obtain ⟨b', off', rfl, hb', hc'⟩ := HY.out.at_ (by omega)
        have g := hc k hlt
        have g' := hc' k hlt
        clear hc hc'
        have k0 : (0 : Int) ≤ (k : Int) := by omega
        have k1 : (k : Int) < (n : Int) := by omega
        by_cases he : xs.getD k 0 = ys.getD k 0
        · have HS := Lib.hid (take_eq_step (by rw [LX.out]; exact hlt) (by rw [LY.out]; exact hlt) HE.out he)
          rw [← he] at g'
          clear he
          generalize xs.getD k 0 = z at g g'
          go_wp2
          go_quiet (fail)
          go_wp2
          go_roundw
          case rel => exact ⟨k + 1, by omega, by go_num, HS, _, rfl⟩
          case measure => simp [intOf]; omega
        · have hne := ne_of_getD he
          have HN := Lib.hid hne
          have hb1 : (xs.getD k 0 != ys.getD k 0) = true := by simpa using he
          have hb2 : (xs.getD k 0 == ys.getD k 0) = false := by simpa using he
          clear he hne
          generalize xs.getD k 0 = z at g hb1 hb2
          generalize ys.getD k 0 = z' at g' hb1 hb2
          go_wp2
          go_quiet (fail)
          go_wp2
          go_ret
          exact ⟨ret_bool (by simpa using HN.out), by (repeat (first | exact New.refl _ | assumption | refine New.alloc ?_ _ | refine New.drew ?_ | refine New.drewN ?_ _ | refine New.setCell ?_ (by first | omega | (simp; omega) | (simp; done)) _ | refine New.trans ?_ (by assumption)))⟩
      · have hk' : k = n := by omega
        subst hk'
        go_wp2
        go_ret
        refine ⟨ret_bool (by
          have h := HE.out
          rw [List.take_of_length_le (by rw [LX.out]; omega), List.take_of_length_le (by rw [LY.out]; omega)] at h
          simp [h]), by (repeat (first | exact New.refl _ | assumption | refine New.alloc ?_ _ | refine New.drew ?_ | refine New.drewN ?_ _ | refine New.setCell ?_ (by first | omega | (simp; omega) | (simp; done)) _ | refine New.trans ?_ (by assumption)))⟩
  · have hne : xs ≠ ys := fun e => hnm (by rw [← hx.len, ← hy.len, e])
    have hb : ((n : Int) != (m : Int)) = true := by simp; omega
    have HN := Lib.hid hne
    clear hx hy hne
    go_enter Try.func28, Try.ntmps28
    go_wp2
    go_ret
    exact ⟨ret_bool (by simpa using HN.out), by (repeat (first | exact New.refl _ | assumption | refine New.alloc ?_ _ | refine New.drew ?_ | refine New.drewN ?_ _ | refine New.setCell ?_ (by first | omega | (simp; omega) | (simp; done)) _ | refine New.trans ?_ (by assumption)))⟩


/-- The numbers k0, k0 + 1, .. -/
def marks (k0 : Int) (n : Nat) : List Int := (List.range n).map fun (i : Nat) => k0 + (i : Int)
theorem marks_len (k0 : Int) (n : Nat) : (marks k0 n).length = n := by simp [marks]
theorem marks_at (k0 : Int) (n i : Nat) (h : i < n) : (marks k0 n).getD i 0 = k0 + (i : Int) := by simp [marks, h]
/-- The first k are marked. -/
def markTo (k0 : Int) (k : Nat) (zs : List Int) : List Int := marks k0 k ++ zs.drop k
theorem markTo_len (k0 : Int) (k : Nat) (zs : List Int) (h : k ≤ zs.length) : (markTo k0 k zs).length = zs.length := by unfold markTo; rw [List.length_append, marks_len, List.length_drop]; omega
theorem markTo_all (k0 : Int) (zs : List Int) : markTo k0 zs.length zs = marks k0 zs.length := by unfold markTo; simp
theorem markTo_step (k0 : Int) (k : Nat) (zs : List Int) (h : k < zs.length) : (markTo k0 k zs).set k (k0 + (k : Int)) = markTo k0 (k + 1) zs := by
  unfold markTo
  rw [List.set_append_right _ _ (by rw [marks_len]; omega), marks_len, Nat.sub_self]
  have e : marks k0 (k + 1) = marks k0 k ++ [k0 + (k : Int)] := by unfold marks; rw [List.range_succ, List.map_append]; simp
  have e2 : zs.drop k = zs[k] :: zs.drop (k + 1) := List.drop_eq_getElem_cons h
  rw [e, List.append_assoc, e2]
  rfl
/-- Only block g has turned, and new blocks are there. -/
theorem own_set {w0 w : World} {g k : Nat} (h : w0.grownBy w (some g)) (u : Value) : w0.grownBy (w.setCell ⟨g, k, none⟩ u) (some g) :=
  ⟨h.os, h.tape, h.output, by simpa [World.setCell] using h.size, fun i hi hne => (Below.heap_setCell _ _ _ _ (fun e => hne (by rw [e]))).trans (h.block i hi hne)⟩

set_option maxHeartbeats 1000000 in
theorem markIntS_any (g n c : Nat) (zs : List Int) (k0 : Int) (h0 : 0 ≤ k0) (h1 : k0 ≤ 100000000) (hn : n ≤ 1048576) (hz : zs.length = n) (w : World) (hx : Row w g zs) :
    Calls Try.prog 29 #[.slice (some ⟨g, 0, none⟩) n c, .int .i64 k0] w fun e w' => e = .returned (.int .i64 (k0 + (n : Int))) ∧ Row w' g (marks k0 n) ∧ w.grownBy w' (some g) := by
  have HX := Lib.hid hx
  have HZ := Lib.hid hz
  clear hx hz
  go_enter Try.func29, Try.ntmps29
  go_wp2
  go_loopw [1, 5] (fun s i wr => ∃ k : Nat, k ≤ n ∧ i = .int .i64 k ∧ s = .int .i64 (k0 + (k : Int)) ∧ Hid (Row wr g (markTo k0 k zs)) ∧ Hid (w.grownBy wr (some g))) (fun _ i _ => n - (intOf i).toNat)
  case atStart => exact ⟨0, Nat.zero_le _, rfl, by simp, Lib.hid (by simpa [markTo, marks] using HX.out), Lib.hid (World.grownBy.refl _ _)⟩
  case round =>
    obtain ⟨k, hk, rfl, rfl, HR, HG⟩ := hrel
    by_cases hlt : k < n
    · have hlen := markTo_len k0 k zs (by rw [HZ.out]; omega)
      have f := HR.out.f k (by rw [hlen, HZ.out]; exact hlt)
      have old := HR.out.c k (by rw [hlen, HZ.out]; exact hlt)
      have HS := HR.out.set_ (k := k) (by rw [hlen, HZ.out]; exact hlt) (k0 + (k : Int))
      rw [markTo_step k0 k zs (by rw [HZ.out]; exact hlt)] at HS
      have HS := Lib.hid HS
      clear hlen
      have e0 : (k : Int) ≤ 1048576 := by omega
      have i0 : (0 : Int) ≤ (k : Int) := by omega
      have i1 : (k : Int) < (n : Int) := by omega
      generalize (markTo k0 k zs).getD k 0 = z' at old
      go_wp2
      go_roundw
      case rel => exact ⟨k + 1, by omega, by go_num, by go_num, HS, Lib.hid (own_set HG.out _)⟩
      case measure => simp [intOf]; omega
    · have hk' : k = n := by omega
      subst hk'
      go_wp2
      go_ret
      exact ⟨rfl, by have h := HR.out; rw [← HZ.out, markTo_all] at h; rw [← HZ.out]; exact h, HG.out⟩

set_option maxHeartbeats 1000000 in
theorem heldIntS_any (A : Option Addr) (n c : Nat) (k0 : Int) (h0 : 0 ≤ k0) (h1 : k0 ≤ 100000000) (hn : n ≤ 1048576) (w : World) (hx : Ints w A n (marks k0 n)) :
    Calls Try.prog 30 #[.slice A n c, .int .i64 k0] w fun e w' => e = .returned (.int .i64 (k0 + (n : Int))) ∧ w = w' := by
  have HX := Lib.hid hx
  clear hx
  go_enter Try.func30, Try.ntmps30
  go_wp2
  go_loop [1, 5] (fun s i => ∃ k : Nat, k ≤ n ∧ i = .int .i64 k ∧ s = .int .i64 (k0 + (k : Int))) (fun _ i => n - (intOf i).toNat)
  case atStart => exact ⟨0, Nat.zero_le _, rfl, by simp⟩
  case round =>
    obtain ⟨k, hk, rfl, rfl⟩ := hrel
    by_cases hlt : k < n
    · obtain ⟨b, off, rfl, hb, hc⟩ := HX.out.at_ (by omega)
      have g := hc k hlt
      rw [marks_at k0 n k hlt] at g
      clear hc
      have e0 : (k : Int) ≤ 1048576 := by omega
      have i0 : (0 : Int) ≤ (k : Int) := by omega
      have i1 : (k : Int) < (n : Int) := by omega
      go_wp2
      go_round
      case rel => exact ⟨k + 1, by omega, by go_num, by go_num⟩
      case measure => simp [intOf]; omega
    · have hk' : k = n := by omega
      subst hk'
      go_wp2
      go_ret
      exact ⟨rfl, rfl⟩
end Go.Proofs.Ytecnhjofgkhlnaa
