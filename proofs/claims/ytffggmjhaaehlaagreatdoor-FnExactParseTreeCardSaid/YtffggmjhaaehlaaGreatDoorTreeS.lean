/- The reference's tree functions, walked: kids, depth, around, count, inOrder, validTree. Condition: the tree can be read. -/
import Derived.Test.YtffggmjhaaehlaaGreatDoorTreeX
namespace Go.Proofs.YtffggmjhaaehlaaGreatDoor
open Go.RowKit

/-- Every box but the first one has a box before it as Parent. -/
def Ups (zs : List Int) (k : Nat) : Prop := (0 < k → par zs 0 = -1) ∧ ∀ j, 0 < j → j < k → ∃ p : Nat, par zs j = (p : Int) ∧ p < j
section
variable {zs : List Int} {k i j n : Nat}
theorem Link.ups (h : Link zs k) : Ups zs k := ⟨h.root, fun j h0 hj => by obtain ⟨p, e, hp, _⟩ := h.up j h0 hj; exact ⟨p, e, hp⟩⟩
theorem Ups.less (h : Ups zs k) (hi : i ≤ k) : Ups zs i := ⟨fun h0 => h.1 (by omega), fun j h0 hj => h.2 j h0 (by omega)⟩
theorem Ups.not_kid (h : Ups zs k) (hi : i < k) (hj : j ≤ i) : par zs j ≠ (i : Int) := fun e => by
  rcases Nat.eq_zero_or_pos j with h0 | h0
  · subst h0; have := h.1 (by omega); omega
  · obtain ⟨p, e2, hp⟩ := h.2 j h0 (by omega); omega
theorem par_cell {w : World} {b off : Nat} (hc : ∀ i, i < n * 9 → w.cell? ⟨b, off + i, none⟩ = some (.int .i64 (zs.getD i 0))) (hi : i < n) : w.cell? ⟨b, off + i * 9, none⟩ = some (.int .i64 (par zs i)) := hc (i * 9) (by omega)
end
set_option maxRecDepth 100000 in
set_option maxHeartbeats 1000000 in
theorem skids_any (A : Option Addr) (n c i : Nat) (zs : List Int) (hn : n ≤ 1048576) (hi : i < n) (hk : ∀ j, j ≤ i → par zs j ≠ (i : Int)) (w : World) (hx : Sts 9 w A n zs) :
    Calls Tryz.prog 38 #[.slice A n c, .int .i64 (i : Int)] w fun e w' => ∃ v, e = .returned v ∧ Own w.heap.size w' v ((kidL zs n i).map Int.ofNat) ∧ New w w' := by
  obtain ⟨b, off, rfl, hb, hc⟩ := hx.at_ (by omega)
  have HC := Lib.hid (fun i hi => par_cell (i := i) hc hi); have HB := Lib.hid hb
  have i0 : (0 : Int) ≤ (i : Int) := by omega
  have i1 : (i : Int) < (n : Int) := by omega
  have n1 : (n : Int) ≤ 1048576 := by omega
  have st : kidL zs (i + 1) i = [] := List.filter_eq_nil_iff.2 fun j hj => by
    have := hk j (by have := List.mem_range.1 hj; omega)
    simpa using this
  have ST := Lib.hid st
  clear hx hc hb hk st
  go_enter Tryz.func38, Tryz.ntmps38
  go_wp2
  go_loopw [5, 6] (fun v x wr => ∃ k : Nat, i < k ∧ k ≤ n ∧ x = .int .i64 (k : Int) ∧ Hid (Own w.heap.size wr v ((kidL zs k i).map Int.ofNat)) ∧ Hid (New w wr)) (fun _ x _ => n - (intOf x).toNat)
  case atStart => exact ⟨i + 1, by omega, by omega, by go_num, Lib.hid (by rw [ST.out]; exact Own.empty w 0 (Nat.le_refl _) rfl), Lib.hid (by (repeat (first | exact New.refl _ | assumption | refine New.alloc ?_ _ | refine New.drew ?_ | refine New.drewN ?_ _ | refine New.setCell ?_ (by first | omega | (simp; omega) | (simp; done)) _ | refine New.trans ?_ (by assumption))))⟩
  case round =>
    obtain ⟨k, hik, hk, rfl, HO, HN⟩ := hrel
    have sz := HN.out.le
    by_cases hlt : k < n
    · have g0 : wr.cell? ⟨b, off + k * 9, none⟩ = some (.int .i64 (par zs k)) := (HN.out.cells b _ HB.out).trans (HC.out k hlt)
      have k0 : (0 : Int) ≤ (k : Int) := by omega
      have k1 : (k : Int) < (n : Int) := by omega
      have LN := Lib.hid (show ((kidL zs k i).map Int.ofNat).length ≤ 1000000 - 1 ∨ True from .inr trivial)
      clear LN
      have KS := Lib.hid (kid_succ zs k i)
      by_cases hp : par zs k = (i : Int)
      · have KS2 : Hid (kidL zs (k + 1) i = kidL zs k i ++ [k]) := Lib.hid (by rw [KS.out, if_pos hp])
        have LL : Hid ((kidL zs k i).length ≤ k) := Lib.hid (by unfold kidL; have := List.length_filter_le (fun j => decide (par zs j = (i : Int))) (List.range k); simpa using this)
        rw [hp] at g0
        clear KS hp
        go_wp2_with (at_builtin; refine wp_app rfl _ _ rfl w.heap.size _ _ rfl (HO.out.alloc _) (some ⟨wr.heap.size, 0, none⟩) 1 1 [(k : Int)] rfl (Ints.one wr _ _) (by rw [List.length_map]; have := LL.out; omega) (by simp; omega) ?_; intro v6 w6 O6 G6; (have N6 := Lib.hid (new_own (HN.out.alloc _) G6 (HO.out.alloc _) (Nat.le_refl _))); (have O6 := Lib.hid O6); clear G6)
        go_wp2
        go_roundw
        case rel => exact ⟨k + 1, by omega, by omega, by go_num, Lib.hid (by rw [KS2.out, List.map_append]; exact O6.out), N6⟩
        case measure => simp [intOf]; omega
      · have KS2 : Hid (kidL zs (k + 1) i = kidL zs k i) := Lib.hid (by rw [KS.out, if_neg hp])
        have hb : (par zs k == (i : Int)) = false := by simpa using hp
        generalize par zs k = y at g0 hb
        clear KS hp
        go_wp2
        go_roundw
        case rel => exact ⟨k + 1, by omega, by omega, by go_num, Lib.hid (by rw [KS2.out]; exact HO.out), HN⟩
        case measure => simp [intOf]; omega
    · obtain rfl : k = n := by omega
      obtain ⟨v, hv⟩ : ∃ v, v = u5 := ⟨_, rfl⟩
      rw [← hv] at HO ⊢
      clear hv
      go_wp2
      go_ret
      exact ⟨v, rfl, HO.out, HN.out⟩
set_option maxHeartbeats 1000000 in
theorem sdepth_any (A : Option Addr) (n c i k : Nat) (zs : List Int) (hn : n ≤ 1048576) (hkn : k ≤ n) (hi : i < k) (hu : Ups zs k) (w : World) (hx : Sts 9 w A n zs) :
    Calls Tryz.prog 31 #[.slice A n c, .int .i64 (i : Int)] w fun e w' => e = .returned (.int .i64 (dep zs i : Int)) ∧ w = w' := by
  obtain ⟨b, off, rfl, hb, hc⟩ := hx.at_ (by omega)
  have HC := Lib.hid (fun i hi => par_cell (i := i) hc hi)
  have HU := Lib.hid hu
  have n1 : (n : Int) ≤ 1048576 := by omega
  have db := dep_le zs i
  clear hx hc hu hb
  go_enter Tryz.func31, Tryz.ntmps31
  go_wp2
  go_loopw [1, 5] (fun x d wr => wr = w ∧ ∃ (j y : Nat), j < k ∧ x = .int .i64 (j : Int) ∧ d = .int .i64 (y : Int) ∧ y + dep zs j = dep zs i) (fun x _ _ => (intOf x).toNat)
  case atStart => exact ⟨rfl, i, 0, hi, rfl, rfl, by omega⟩
  case round =>
    obtain ⟨rfl, j, y, hj, rfl, rfl, hy⟩ := hrel
    have g0 : wr.cell? ⟨b, off + j * 9, none⟩ = some (.int .i64 (par zs j)) := HC.out j (by omega)
    have j0 : (0 : Int) ≤ (j : Int) := by omega
    have j1 : (j : Int) < (n : Int) := by omega
    rcases Nat.eq_zero_or_pos j with h0 | h0
    · subst h0
      rw [HU.out.1 (by omega), Nat.zero_mul, Nat.add_zero] at g0
      have e0 : dep zs 0 = 0 := dep_top (by rw [HU.out.1 (by omega)]; omega)
      have EY : Hid (y = dep zs i) := Lib.hid (by omega)
      clear hy e0
      go_wp2
      go_ret
      exact ⟨by rw [← EY.out]; rfl, rfl⟩
    · obtain ⟨p, e, hp⟩ := HU.out.2 j h0 hj
      rw [e] at g0
      have e0 := dep_par e hp
      have hy2 : y + 1 + dep zs p = dep zs i := by omega
      have y1 : (y : Int) ≤ 1048576 := by omega
      have y0 : (0 : Int) ≤ (y : Int) := by omega
      have p0 : (0 : Int) ≤ (p : Int) := by omega
      clear hy e0 e
      go_wp2
      go_roundw
      case rel => exact ⟨trivial, p, y + 1, by omega, rfl, by go_num, hy2⟩
      case measure => simp [intOf]; omega
set_option maxHeartbeats 1000000 in
theorem saround_any (A : Option Addr) (n c i k : Nat) (zs : List Int) (hn : n ≤ 1048576) (hi : i < n) (hu : Ups zs n) (w : World) (hx : Sts 9 w A n zs) :
    Calls Tryz.prog 100 #[.slice A n c, .int .i64 (k : Int), .int .i64 (i : Int)] w fun e w' => e = .returned (.bool (anc zs k i)) ∧ w = w' := by
  obtain ⟨b, off, rfl, hb, hc⟩ := hx.at_ (by omega)
  have HC := Lib.hid (fun i hi => par_cell (i := i) hc hi)
  have HU := Lib.hid hu
  have n1 : (n : Int) ≤ 1048576 := by omega
  have k0 : (0 : Int) ≤ (k : Int) := by omega
  clear hx hc hu hb
  go_enter Tryz.func100, Tryz.ntmps100
  go_wp2
  go_loopw [2] (fun x wr => wr = w ∧ ∃ (j : Nat), j < n ∧ x = .int .i64 (j : Int) ∧ Hid (anc zs k j = anc zs k i)) (fun x _ => (intOf x).toNat)
  case atStart => exact ⟨rfl, i, hi, rfl, Lib.hid rfl⟩
  case round =>
    obtain ⟨rfl, j, hj, rfl, HA⟩ := hrel
    have g0 : wr.cell? ⟨b, off + j * 9, none⟩ = some (.int .i64 (par zs j)) := HC.out j hj
    have j0 : (0 : Int) ≤ (j : Int) := by omega
    have j1 : (j : Int) < (n : Int) := by omega
    rcases Nat.lt_trichotomy k j with hlt | heq | hgt
    · obtain ⟨p, e, hp⟩ := HU.out.2 j (by omega) hj
      have HA2 : Hid (anc zs k p = anc zs k i) := Lib.hid (by rw [← HA.out, anc_par e hp (by omega)])
      rw [e] at g0
      have kj : (k : Int) < (j : Int) := by omega
      have p0 : (0 : Int) ≤ (p : Int) := by omega
      clear HA e
      go_wp2
      go_roundw
      case rel => exact ⟨trivial, p, by omega, rfl, HA2⟩
      case measure => simp [intOf]; omega
    · subst heq
      have HA2 : Hid (anc zs k i = true) := Lib.hid (by rw [← HA.out, anc_self])
      clear HA
      go_wp2
      go_ret
      exact ⟨by rw [HA2.out]; rfl, rfl⟩
    · have hf : anc zs k j = false := by
        cases hv : anc zs k j
        · rfl
        · have := anc_le hv; omega
      have HA2 : Hid (anc zs k i = false) := Lib.hid (by rw [← HA.out, hf])
      have hd : decide (k < j) = false := decide_eq_false (by omega)
      have hb2 : (j == k) = false := by simp; omega
      have hb : ((j : Int) == (k : Int)) = false := by simp; omega
      clear HA hf hgt
      go_wp2
      go_ret
      exact ⟨by rw [HA2.out]; rfl, rfl⟩
set_option maxHeartbeats 1000000 in
theorem scount_any (A : Option Addr) (n c i : Nat) (zs : List Int) (hn : n ≤ 1048576) (hi : i < n) (hu : Ups zs n) (w : World) (hx : Sts 9 w A n zs) :
    Calls Tryz.prog 86 #[.slice A n c, .int .i64 (i : Int)] w fun e w' => e = .returned (.int .i64 ((en zs n i : Int) - (i : Int))) ∧ w = w' := by
  have CA := Lib.hid (fun (j : Nat) (hj : j < n) => saround_any A n c j i zs hn hj hu w hx)
  have n1 : (n : Int) ≤ 1048576 := by omega
  have i0 : (0 : Int) ≤ (i : Int) := by omega
  clear hx hu
  go_enter Tryz.func86, Tryz.ntmps86
  go_wp2
  go_loopw [5, 6] (fun d x wr => wr = w ∧ ∃ (j y : Nat), j ≤ n ∧ x = .int .i64 (j : Int) ∧ d = .int .i64 (y : Int) ∧ y + i = j ∧ Hid (runE zs n i j = en zs n i)) (fun _ x _ => n - (intOf x).toNat)
  case atStart => exact ⟨rfl, i, 0, by omega, rfl, rfl, by omega, Lib.hid rfl⟩
  case round =>
    obtain ⟨rfl, j, y, hj, rfl, rfl, hy, HR⟩ := hrel
    have j0 : (0 : Int) ≤ (j : Int) := by omega
    have y0 : (0 : Int) ≤ (y : Int) := by omega
    have y1 : (y : Int) ≤ 1048576 := by omega
    by_cases hlt : j < n
    · have j1 : (j : Int) < (n : Int) := by omega
      have CT := Lib.hid (CA.out j hlt)
      cases hv : anc zs i j
      · have HV := Lib.hid hv
        have EX : Hid (((en zs n i : Nat) : Int) - (i : Int) = (y : Int)) := Lib.hid (by rw [← HR.out, runE_stop (by rw [hv]; simp)]; omega)
        clear hv HR
        go_wp2_with (go_at_call 100; refine CT.out.mono ?_; rw [HV.out]; rintro e w' ⟨rfl, rfl⟩)
        go_ret
        exact ⟨by rw [EX.out]; rfl, rfl⟩
      · have HV := Lib.hid hv
        have HR2 : Hid (runE zs n i (j + 1) = en zs n i) := Lib.hid (by rw [← HR.out, runE_go hlt hv])
        clear hv HR
        go_wp2_with (go_at_call 100; refine CT.out.mono ?_; rw [HV.out]; rintro e w' ⟨rfl, rfl⟩)
        go_roundw
        case rel => exact ⟨trivial, j + 1, y + 1, by omega, by go_num, by go_num, by omega, HR2⟩
        case measure => simp [intOf]; omega
    · obtain rfl : j = n := by omega
      have EX : Hid (((en zs j i : Nat) : Int) - (i : Int) = (y : Int)) := Lib.hid (by rw [← HR.out, runE_stop (by omega)]; omega)
      clear HR
      go_wp2
      go_ret
      exact ⟨by rw [EX.out]; rfl, rfl⟩
end Go.Proofs.YtffggmjhaaehlaaGreatDoor
