/- The law FnScrollInto, walked: the part is seen where it is not larger than the view, and its beginning always. Condition: the code can be read. -/
import Derived.Test.YtacpodlbiphcfaaDrawScr
import Derived.Test.YtacpodlbiphcfaaScrV
namespace Go.Proofs.Ytacpodlbiphcfaa
open Go.RowKit

set_option maxHeartbeats 4000000 in
theorem lawScrollInto (A : Option Addr) (n c : Nat) (hn : n ≤ maxLen) (hnc : n ≤ c) (w : World) (hb : Bytes w A n) :
    Calls Try.prog 6 #[.slice A n c] w fun e w' => e = .returned (.bool true) ∧ New w w' := by
  have HB := Lib.hid hb; have HM := Lib.hid hn
  clear hb
  unfold maxLen at hn
  by_cases hbig : 1048576 < n
  · go_enter Try.func6, Try.ntmps6
    go_wp2
    go_ret
    exact ⟨rfl, by (repeat (first | exact New.refl _ | assumption | refine New.alloc ?_ _ | refine New.drew ?_ | refine New.drewN ?_ _ | refine New.setCell ?_ (by first | omega | (simp; omega) | (simp; done)) _ | refine New.trans ?_ (by assumption)))⟩
  have hm : (n : Int) ≤ 1048576 := by omega
  have hm0 : (0 : Int) ≤ (n : Int) := by omega
  go_enter Try.func6, Try.ntmps6
  go_wp2_with fail
  refine (DrawScrollInto_any A n c HM.out hnc _ HB.out).mono ?_
  rintro e w1 ⟨cc, v, a, l, h, rfl, ⟨⟨cb0, cb1⟩, ⟨vb0, vb1⟩, ⟨ab0, ab1⟩, ⟨lb0, lb1⟩, ⟨hb0, hb1⟩⟩, N1⟩
  replace N1 := Lib.hid N1
  have hmx := fun (W : World) (ts : Array TypeId) (t : TypeId) (x y : Int) => run_mx Try.prog W ts t x y
  rcases siA_or cc v a l h with E1 | ⟨hv, hk, E1⟩
  · replace E1 := Lib.hid E1
    clear hmx
    go_wp2_with (first
      | (go_at_call 16; ((with_reducible refine (ScrollInto_any _ _ _ _ _ _).mono ?_); (first | rw [E1.out]); rintro e w' ⟨rfl, rfl⟩))
      | (go_at_call 17; ((with_reducible refine (SScrollInto_any _ _ _ _ _ _).mono ?_); (first | rw [E1.out]); rintro e w' ⟨rfl, rfl⟩)))
    go_ret
    exact ⟨rfl, N1.out⟩
  · obtain ⟨⟨c0, c1⟩, v0, v1⟩ := vwB_iff.1 hv
    obtain ⟨⟨a0, a1⟩, ⟨l0, l1⟩, h0, h1⟩ := hk
    obtain ⟨z, hz⟩ : ∃ z, mn l (mx (h - v) a) = z := ⟨_, rfl⟩
    rw [hz] at E1
    have z0 : 0 ≤ z := by rw [← hz]; unfold mn mx; omega
    have z1 : z ≤ l := by rw [← hz]; unfold mn; omega
    have a2 : a ≤ 200000 := by unfold mx at a1; omega
    have E2 := clA_at hv (decide_eq_true (show -200000 ≤ z ∧ z ≤ 200000 by omega))
    rw [show clP cc v z = z by unfold mn mx at hz; unfold mx at a1; unfold clP mx mn; omega] at E2
    have f : v < h - l ∨ (h - l ≤ v ∧ h ≤ z + v) := by unfold mn mx at hz; omega
    replace E1 := Lib.hid E1; replace E2 := Lib.hid E2
    clear hz hv hmx a1
    rcases f with f | ⟨f0, f1⟩
    · skip
      go_wp2_with (first
        | (go_at_call 13; ((with_reducible refine (ClampScroll_any _ _ _ _).mono ?_); (first | rw [E1.out] | rw [E2.out]); rintro e w' ⟨rfl, rfl⟩))
        | (go_at_call 16; ((with_reducible refine (ScrollInto_any _ _ _ _ _ _).mono ?_); (first | rw [E1.out] | rw [E2.out]); rintro e w' ⟨rfl, rfl⟩))
        | (go_at_call 17; ((with_reducible refine (SScrollInto_any _ _ _ _ _ _).mono ?_); (first | rw [E1.out] | rw [E2.out]); rintro e w' ⟨rfl, rfl⟩)))
      go_ret
      exact ⟨rfl, N1.out⟩
    · skip
      go_wp2_with (first
        | (go_at_call 13; ((with_reducible refine (ClampScroll_any _ _ _ _).mono ?_); (first | rw [E1.out] | rw [E2.out]); rintro e w' ⟨rfl, rfl⟩))
        | (go_at_call 16; ((with_reducible refine (ScrollInto_any _ _ _ _ _ _).mono ?_); (first | rw [E1.out] | rw [E2.out]); rintro e w' ⟨rfl, rfl⟩))
        | (go_at_call 17; ((with_reducible refine (SScrollInto_any _ _ _ _ _ _).mono ?_); (first | rw [E1.out] | rw [E2.out]); rintro e w' ⟨rfl, rfl⟩)))
      go_ret
      exact ⟨rfl, N1.out⟩
end Go.Proofs.Ytacpodlbiphcfaa
