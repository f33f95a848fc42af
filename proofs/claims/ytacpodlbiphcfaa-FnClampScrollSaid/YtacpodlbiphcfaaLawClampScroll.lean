/- The law FnClampScroll, walked: the place lies in the content, stays behind a second call, and is the given one wherever that is possible. Condition: the code can be read. -/
import Derived.Test.YtacpodlbiphcfaaDrawScr
import Derived.Test.YtacpodlbiphcfaaScrV
namespace Go.Proofs.Ytacpodlbiphcfaa
open Go.RowKit

set_option maxHeartbeats 4000000 in
theorem lawClampScroll (A : Option Addr) (n c : Nat) (hn : n ≤ maxLen) (hnc : n ≤ c) (w : World) (hb : Bytes w A n) :
    Calls Try.prog 3 #[.slice A n c] w fun e w' => e = .returned (.bool true) ∧ New w w' := by
  have HB := Lib.hid hb; have HM := Lib.hid hn
  clear hb
  unfold maxLen at hn
  by_cases hbig : 1048576 < n
  · go_enter Try.func3, Try.ntmps3
    go_wp2
    go_ret
    exact ⟨rfl, by (repeat (first | exact New.refl _ | assumption | refine New.alloc ?_ _ | refine New.drew ?_ | refine New.drewN ?_ _ | refine New.setCell ?_ (by first | omega | (simp; omega) | (simp; done)) _ | refine New.trans ?_ (by assumption)))⟩
  have hm : (n : Int) ≤ 1048576 := by omega
  have hm0 : (0 : Int) ≤ (n : Int) := by omega
  go_enter Try.func3, Try.ntmps3
  go_wp2_with fail
  refine (DrawClampScroll_any A n c HM.out hnc _ HB.out).mono ?_
  rintro e w1 ⟨cc, v, a, rfl, ⟨⟨cb0, cb1⟩, ⟨vb0, vb1⟩, ⟨ab0, ab1⟩⟩, N1⟩
  replace N1 := Lib.hid N1
  have hmx := fun (W : World) (ts : Array TypeId) (t : TypeId) (x y : Int) => run_mx Try.prog W ts t x y
  rcases clA_or cc v a with E1 | ⟨hv, hk, E1⟩
  · replace E1 := Lib.hid E1
    clear hmx
    go_wp2_with (first
      | (go_at_call 13; ((with_reducible refine (ClampScroll_any _ _ _ _).mono ?_); (first | rw [E1.out]); rintro e w' ⟨rfl, rfl⟩))
      | (go_at_call 14; ((with_reducible refine (SClampScroll_any _ _ _ _).mono ?_); (first | rw [E1.out]); rintro e w' ⟨rfl, rfl⟩)))
    go_ret
    exact ⟨rfl, N1.out⟩
  · obtain ⟨⟨c0, c1⟩, v0, v1⟩ := vwB_iff.1 hv
    obtain ⟨k0, k1⟩ := hk
    obtain ⟨z, hz⟩ : ∃ z, clP cc v a = z := ⟨_, rfl⟩
    rw [hz] at E1
    have z0 : 0 ≤ z := by rw [← hz]; unfold clP mx; omega
    have z1 : z ≤ mx 0 (cc - v) := by rw [← hz]; unfold clP mx mn; omega
    have f : a < 0 ∨ (0 ≤ a ∧ mx 0 (cc - v) < a) ∨ (0 ≤ a ∧ z = a) := by unfold clP mx mn at hz; unfold mx; omega
    have E2 := clA_at hv (decide_eq_true (show -200000 ≤ z ∧ z ≤ 200000 by unfold mx at z1; omega))
    rw [show clP cc v z = z by unfold mx at z1; unfold clP mx mn; omega] at E2
    replace E1 := Lib.hid E1; replace E2 := Lib.hid E2
    clear hz hv
    rcases f with f | ⟨f0, f1⟩ | ⟨f0, rfl⟩
    · skip
      go_wp2_with (first
        | (go_at_call 13; ((with_reducible refine (ClampScroll_any _ _ _ _).mono ?_); (first | rw [E1.out] | rw [E2.out]); rintro e w' ⟨rfl, rfl⟩))
        | (go_at_call 14; ((with_reducible refine (SClampScroll_any _ _ _ _).mono ?_); (first | rw [E1.out] | rw [E2.out]); rintro e w' ⟨rfl, rfl⟩)))
      go_ret
      exact ⟨rfl, N1.out⟩
    · skip
      go_wp2_with (first
        | (go_at_call 13; ((with_reducible refine (ClampScroll_any _ _ _ _).mono ?_); (first | rw [E1.out] | rw [E2.out]); rintro e w' ⟨rfl, rfl⟩))
        | (go_at_call 14; ((with_reducible refine (SClampScroll_any _ _ _ _).mono ?_); (first | rw [E1.out] | rw [E2.out]); rintro e w' ⟨rfl, rfl⟩)))
      go_ret
      exact ⟨rfl, N1.out⟩
    · skip
      go_wp2_with (first
        | (go_at_call 13; ((with_reducible refine (ClampScroll_any _ _ _ _).mono ?_); (first | rw [E1.out] | rw [E2.out]); rintro e w' ⟨rfl, rfl⟩))
        | (go_at_call 14; ((with_reducible refine (SClampScroll_any _ _ _ _).mono ?_); (first | rw [E1.out] | rw [E2.out]); rintro e w' ⟨rfl, rfl⟩)))
      go_ret
      exact ⟨rfl, N1.out⟩
end Go.Proofs.Ytacpodlbiphcfaa
