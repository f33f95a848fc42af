/- The rectangle functions of the program and of the reference answer the same (second part): points in rectangles, common parts, hulls and insets. No condition but valid arguments where the code has checked them. -/
import Derived.Test.YtckdokijmlpngaaRect
import Derived.Deep.RegionHeld3
namespace Go.Proofs.Ytckdokijmlpngaa
open Go.RowKit

set_option maxHeartbeats 800000 in
theorem has_any (x y ww h px py : Int) (w : World) (hv : vR x y ww h = true) :
    Calls Try.prog 70 #[rc x y ww h, .int .i64 px, .int .i64 py] w fun e w' => e = .returned (.bool (hR x y ww h px py)) ∧ New w w' := by
  obtain ⟨a1, a2, a3, a4, a5, a6, a7, a8⟩ := vR_iff.1 hv
  clear hv
  go_enter Try.func70, Try.ntmps70
  go_wp2_with (first
    | (go_at_call 65; refine (right_any _ _ _ _ _ (by omega) (by omega) (by omega) (by omega)).mono ?_; rintro e w1 ⟨rfl, hb1⟩; have hc1 := hb1.cells; have hz1 := hb1.le)
    | (go_at_call 66; refine (bottom_any _ _ _ _ _ (by omega) (by omega) (by omega) (by omega)).mono ?_; rintro e w2 ⟨rfl, hb2⟩))
  all_goals (go_ret; exact ⟨ret_bool (by unfold hR; rw [Bool.eq_iff_iff]; simp at *; omega), by (repeat (first | exact New.refl _ | assumption | refine New.alloc ?_ _ | refine New.drew ?_ | refine New.drewN ?_ _ | refine New.setCell ?_ (by first | omega | (simp; omega) | (simp; done)) _ | refine New.trans ?_ (by assumption)))⟩)

set_option maxHeartbeats 800000 in
theorem sinRect_any (x y ww h px py : Int) (w : World) (hv : vR x y ww h = true) :
    Calls Try.prog 67 #[rc x y ww h, .int .i64 px, .int .i64 py] w fun e w' => e = .returned (.bool (hR x y ww h px py)) ∧ New w w' := by
  obtain ⟨a1, a2, a3, a4, a5, a6, a7, a8⟩ := vR_iff.1 hv
  clear hv
  go_enter Try.func67, Try.ntmps67
  go_wp2
  all_goals (go_ret; exact ⟨ret_bool (by unfold hR; rw [Bool.eq_iff_iff]; simp at *; omega), by (repeat (first | exact New.refl _ | assumption | refine New.alloc ?_ _ | refine New.drew ?_ | refine New.drewN ?_ _ | refine New.setCell ?_ (by first | omega | (simp; omega) | (simp; done)) _ | refine New.trans ?_ (by assumption)))⟩)


/-- A rectangle that is checked: the same if it is valid. -/
theorem ifValid_yes (x y ww h : Int) (w : World) (hv : vR x y ww h = true) :
    Calls Try.prog 47 #[rc x y ww h] w fun e w' => e = .returned (.tuple #[rc x y ww h, .bool true]) ∧ New w w' := by
  go_enter Try.func47, Try.ntmps47
  go_wp2_with (go_at_call 61; refine (valid_any _ _ _ _ _).mono ?_; rintro e w1 ⟨rfl, hb1⟩; have hc1 := hb1.cells; have hf1 := hb1.marks; have hz1 := hb1.le)
  refine bodyPost_ret (v := .tuple #[rc x y ww h, .bool true]) (by simp [results, Try.results47, go_sem, hc1]) rfl ⟨rfl, by (repeat (first | exact New.refl _ | assumption | refine New.alloc ?_ _ | refine New.drew ?_ | refine New.drewN ?_ _ | refine New.setCell ?_ (by first | omega | (simp; omega) | (simp; done)) _ | refine New.trans ?_ (by assumption)))⟩
theorem ifValid_no (x y ww h : Int) (w : World) (hv : vR x y ww h = false) :
    Calls Try.prog 47 #[rc x y ww h] w fun e w' => e = .returned (.tuple #[rc 0 0 0 0, .bool false]) ∧ New w w' := by
  go_enter Try.func47, Try.ntmps47
  go_wp2_with (go_at_call 61; refine (valid_any _ _ _ _ _).mono ?_; rintro e w1 ⟨rfl, hb1⟩; have hc1 := hb1.cells; have hf1 := hb1.marks; have hz1 := hb1.le)
  refine bodyPost_ret (v := .tuple #[rc 0 0 0 0, .bool false]) (by simp [results, Try.results47, go_sem, hc1]) rfl ⟨rfl, by (repeat (first | exact New.refl _ | assumption | refine New.alloc ?_ _ | refine New.drew ?_ | refine New.drewN ?_ _ | refine New.setCell ?_ (by first | omega | (simp; omega) | (simp; done)) _ | refine New.trans ?_ (by assumption)))⟩

end Go.Proofs.Ytckdokijmlpngaa
