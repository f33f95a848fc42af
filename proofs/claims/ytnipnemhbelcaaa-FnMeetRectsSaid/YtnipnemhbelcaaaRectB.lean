/- The rectangle functions of the program and of the reference answer the same (second part): points in rectangles, common parts, hulls and insets. No condition but valid arguments where the code has checked them. -/
import Derived.Test.YtnipnemhbelcaaaRect
import Derived.Deep.RegionHeld3
namespace Go.Proofs.Ytnipnemhbelcaaa
open Go.RowKit

set_option maxHeartbeats 800000 in
theorem has_any (x y ww h px py : Int) (w : World) (hv : vR x y ww h = true) :
    Calls Try.prog 31 #[rc x y ww h, .int .i64 px, .int .i64 py] w fun e w' => e = .returned (.bool (hR x y ww h px py)) ∧ New w w' := by
  obtain ⟨a1, a2, a3, a4, a5, a6, a7, a8⟩ := vR_iff.1 hv
  clear hv
  go_enter Try.func31, Try.ntmps31
  go_wp2_with (first
    | (go_at_call 52; refine (right_any _ _ _ _ _ (by omega) (by omega) (by omega) (by omega)).mono ?_; rintro e w1 ⟨rfl, hb1⟩; have hc1 := hb1.cells; have hz1 := hb1.le)
    | (go_at_call 53; refine (bottom_any _ _ _ _ _ (by omega) (by omega) (by omega) (by omega)).mono ?_; rintro e w2 ⟨rfl, hb2⟩))
  all_goals (go_ret; exact ⟨ret_bool (by unfold hR; rw [Bool.eq_iff_iff]; simp at *; omega), by (repeat (first | exact New.refl _ | assumption | refine New.alloc ?_ _ | refine New.drew ?_ | refine New.drewN ?_ _ | refine New.setCell ?_ (by first | omega | (simp; omega) | (simp; done)) _ | refine New.trans ?_ (by assumption)))⟩)

set_option maxHeartbeats 800000 in
theorem InRect_any (x y ww h px py : Int) (w : World) :
    Calls Try.prog 12 #[rc x y ww h, .int .i64 px, .int .i64 py] w fun e w' => e = .returned (.bool (iR x y ww h px py)) ∧ New w w' := by
  cases hv : vR x y ww h
  · go_enter Try.func12, Try.ntmps12
    go_wp2_with (go_at_call 27; refine (valid_any _ _ _ _ _).mono ?_; rintro e w1 ⟨rfl, hb1⟩)
    go_ret
    exact ⟨ret_bool (by unfold iR; rw [hv]; rfl), by (repeat (first | exact New.refl _ | assumption | refine New.alloc ?_ _ | refine New.drew ?_ | refine New.drewN ?_ _ | refine New.setCell ?_ (by first | omega | (simp; omega) | (simp; done)) _ | refine New.trans ?_ (by assumption)))⟩
  · have Hv := Lib.hid hv
    go_enter Try.func12, Try.ntmps12
    go_wp2_with (first
      | (go_at_call 27; refine (valid_any _ _ _ _ _).mono ?_; rintro e w1 ⟨rfl, hb1⟩; have hc1 := hb1.cells; have hz1 := hb1.le)
      | (go_at_call 31; refine (has_any _ _ _ _ _ _ _ Hv.out).mono ?_; rintro e w2 ⟨rfl, hb2⟩))
    go_ret
    exact ⟨ret_bool (by unfold iR; rw [hv]; rfl), by (repeat (first | exact New.refl _ | assumption | refine New.alloc ?_ _ | refine New.drew ?_ | refine New.drewN ?_ _ | refine New.setCell ?_ (by first | omega | (simp; omega) | (simp; done)) _ | refine New.trans ?_ (by assumption)))⟩

/-- A rectangle that is checked: the same if it is valid. -/
theorem ifValid_yes (x y ww h : Int) (w : World) (hv : vR x y ww h = true) :
    Calls Try.prog 33 #[rc x y ww h] w fun e w' => e = .returned (.tuple #[rc x y ww h, .bool true]) ∧ New w w' := by
  go_enter Try.func33, Try.ntmps33
  go_wp2_with (go_at_call 27; refine (valid_any _ _ _ _ _).mono ?_; rintro e w1 ⟨rfl, hb1⟩; have hc1 := hb1.cells; have hf1 := hb1.marks; have hz1 := hb1.le)
  refine bodyPost_ret (v := .tuple #[rc x y ww h, .bool true]) (by simp [results, Try.results33, go_sem, hc1]) rfl ⟨rfl, by (repeat (first | exact New.refl _ | assumption | refine New.alloc ?_ _ | refine New.drew ?_ | refine New.drewN ?_ _ | refine New.setCell ?_ (by first | omega | (simp; omega) | (simp; done)) _ | refine New.trans ?_ (by assumption)))⟩
theorem ifValid_no (x y ww h : Int) (w : World) (hv : vR x y ww h = false) :
    Calls Try.prog 33 #[rc x y ww h] w fun e w' => e = .returned (.tuple #[rc 0 0 0 0, .bool false]) ∧ New w w' := by
  go_enter Try.func33, Try.ntmps33
  go_wp2_with (go_at_call 27; refine (valid_any _ _ _ _ _).mono ?_; rintro e w1 ⟨rfl, hb1⟩; have hc1 := hb1.cells; have hf1 := hb1.marks; have hz1 := hb1.le)
  refine bodyPost_ret (v := .tuple #[rc 0 0 0 0, .bool false]) (by simp [results, Try.results33, go_sem, hc1]) rfl ⟨rfl, by (repeat (first | exact New.refl _ | assumption | refine New.alloc ?_ _ | refine New.drew ?_ | refine New.drewN ?_ _ | refine New.setCell ?_ (by first | omega | (simp; omega) | (simp; done)) _ | refine New.trans ?_ (by assumption)))⟩

end Go.Proofs.Ytnipnemhbelcaaa
