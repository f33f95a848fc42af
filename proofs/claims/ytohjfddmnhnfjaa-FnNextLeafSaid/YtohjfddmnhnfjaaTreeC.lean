/- nodeAt and count of the program, walked. Condition: the tree can be read. -/
import Derived.Test.YtohjfddmnhnfjaaTreeK
import Derived.Lib.SliceRun
namespace Go.Proofs.Ytohjfddmnhnfjaa
open Go.RowKit

/-- There is such a box in a valid tree. -/
def nodeOk (n : Nat) (zs : List Int) (at_ : Int) : Bool := vtB n zs && decide (0 ≤ at_ ∧ at_ ≤ (n : Int) - 1)
theorem nodeOk_iff {n : Nat} {zs : List Int} {at_ : Int} : nodeOk n zs at_ = true ↔ vtB n zs = true ∧ ∃ i : Nat, at_ = (i : Int) ∧ i < n := by
  unfold nodeOk
  rw [Bool.and_eq_true, decide_eq_true_eq]
  constructor
  · rintro ⟨h1, h2⟩; exact ⟨h1, at_.toNat, by omega, by omega⟩
  · rintro ⟨h1, i, rfl, h2⟩; exact ⟨h1, by omega⟩
set_option maxHeartbeats 1000000 in
theorem nodeAt_yes (A : Option Addr) (n c i : Nat) (zs : List Int) (hv : vtB n zs = true) (hi : i < n) (w : World) (hx : Sts 9 w A n zs) :
    Calls Try.prog 39 #[.slice A n c, .int .i64 (i : Int)] w fun e w' => New w w' ∧ ∃ nb ar fi la ne, e = .returned (.pointer (some ⟨nb i, 0, none⟩)) ∧ Lnk w.heap.size w' nb zs n ar fi la ne := by
  have hn := (vtB_iff.1 hv).1
  have HX := Lib.hid hx
  have HV := Lib.hid hv
  have i0 : (0 : Int) ≤ (i : Int) := by omega
  have i1 : (i : Int) < (n : Int) := by omega
  have hd : decide (0 ≤ (i : Int) ∧ (i : Int) ≤ (n : Int) - 1) = true := decide_eq_true (by omega)
  clear hx hv
  go_enter Try.func39, Try.ntmps39
  go_wp2_with fail
  refine (linkTree_any A n c zs (by omega) _ HX.out).mono ?_
  rintro e w1 ⟨N1, ⟨hf, _⟩ | ⟨_, g, nb, ar, fi, la, ne, rfl, hg, PR, LN⟩⟩
  · rw [HV.out] at hf; cases hf
  · have pc := PR.c i hi
    have LN' := Lib.hid LN; have N1' := Lib.hid N1
    clear LN PR N1
    go_wp2_with (go_at_call 53; refine (within_any _ _ _ _).mono ?_; rw [hd]; rintro e w' ⟨rfl, rfl⟩)
    go_ret
    exact ⟨N1'.out, nb, ar, fi, la, ne, rfl, LN'.out⟩
set_option maxHeartbeats 1000000 in
theorem nodeAt_no (A : Option Addr) (n c : Nat) (zs : List Int) (at_ : Int) (hn : n ≤ 1048576) (h : nodeOk n zs at_ = false) (w : World) (hx : Sts 9 w A n zs) :
    Calls Try.prog 39 #[.slice A n c, .int .i64 at_] w fun e w' => e = .returned (.pointer none) ∧ New w w' := by
  have HX := Lib.hid hx
  have n0 : (0 : Int) ≤ (n : Int) := by omega
  have n1 : (n : Int) ≤ 1048576 := by omega
  clear hx
  cases hv : vtB n zs
  · have HV := Lib.hid hv
    have hd : decide (0 ≤ at_ ∧ at_ ≤ -1) = false := decide_eq_false (by omega)
    clear h hv
    go_enter Try.func39, Try.ntmps39
    go_wp2_with fail
    refine (linkTree_any A n c zs hn _ HX.out).mono ?_
    rintro e w1 ⟨N1, ⟨_, rfl⟩ | ⟨hf, _⟩⟩
    · have N1' := Lib.hid N1
      clear N1
      go_wp2_with (go_at_call 53; refine (within_any _ _ _ _).mono ?_; rw [hd]; rintro e w' ⟨rfl, rfl⟩)
      go_ret
      exact ⟨rfl, N1'.out⟩
    · rw [HV.out] at hf; cases hf
  · have HV := Lib.hid hv
    have hd : decide (0 ≤ at_ ∧ at_ ≤ (n : Int) - 1) = false := by unfold nodeOk at h; rw [hv, Bool.true_and] at h; exact h
    have hp := (vtB_iff.1 hv).1.1
    have n2 : (1 : Int) ≤ (n : Int) := by omega
    clear h hv
    go_enter Try.func39, Try.ntmps39
    go_wp2_with fail
    refine (linkTree_any A n c zs hn _ HX.out).mono ?_
    rintro e w1 ⟨N1, ⟨hf, _⟩ | ⟨_, g, nb, ar, fi, la, ne, rfl, hg, _, _⟩⟩
    · rw [HV.out] at hf; cases hf
    · have N1' := Lib.hid N1
      clear N1
      go_wp2_with (go_at_call 53; refine (within_any _ _ _ _).mono ?_; rw [hd]; rintro e w' ⟨rfl, rfl⟩)
      go_ret
      exact ⟨rfl, N1'.out⟩
end Go.Proofs.Ytohjfddmnhnfjaa
