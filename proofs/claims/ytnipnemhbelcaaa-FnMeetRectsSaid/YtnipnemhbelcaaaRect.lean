/- The rectangle functions of the program and of the reference answer the same: each is told by one function on numbers. No condition. -/
import Derived.Test.YtnipnemhbelcaaaProg
import Derived.Test.YtnipnemhbelcaaaMath
import Derived.Test.YtnipnemhbelcaaaBase
import Derived.Test.YtnipnemhbelcaaaInts2
import Derived.WalkKit
import Derived.WalkSpells
import Derived.WalkLawsBesides
import Derived.Handy
import Derived.Lib.Hide
namespace Go.Proofs.Ytnipnemhbelcaaa
open Go.RowKit

abbrev rc (x y w h : Int) : Value := .agg #[.int .i64 x, .int .i64 y, .int .i64 w, .int .i64 h]
set_option maxHeartbeats 400000 in
theorem valid_any (x y ww h : Int) (w : World) :
    Calls Try.prog 27 #[rc x y ww h] w fun e w' => e = .returned (.bool (vR x y ww h)) ∧ New w w' := by
  go_enter Try.func27, Try.ntmps27
  go_wp2_with (go_at_call 38; refine (within_any _ _ _ _).mono ?_; rintro e w' ⟨rfl, rfl⟩)
  all_goals (go_ret; exact ⟨ret_bool (by rw [Bool.eq_iff_iff, vR_iff]; simp at *; omega), by (repeat (first | exact New.refl _ | assumption | refine New.alloc ?_ _ | refine New.drew ?_ | refine New.drewN ?_ _ | refine New.setCell ?_ (by first | omega | (simp; omega) | (simp; done)) _ | refine New.trans ?_ (by assumption)))⟩)

set_option maxHeartbeats 400000 in
theorem validRect_any (x y ww h : Int) (w : World) :
    Calls Try.prog 29 #[rc x y ww h] w fun e w' => e = .returned (.bool (vR x y ww h)) ∧ New w w' := by
  go_enter Try.func29, Try.ntmps29
  go_wp2_with (go_at_call 43; refine (inRange_any _ _ _ _).mono ?_; rintro e w' ⟨rfl, rfl⟩)
  all_goals (go_ret; exact ⟨ret_bool (by rw [Bool.eq_iff_iff, vR_iff]; simp at *; omega), by (repeat (first | exact New.refl _ | assumption | refine New.alloc ?_ _ | refine New.drew ?_ | refine New.drewN ?_ _ | refine New.setCell ?_ (by first | omega | (simp; omega) | (simp; done)) _ | refine New.trans ?_ (by assumption)))⟩)

set_option maxHeartbeats 400000 in
theorem ValidRect_any (x y ww h : Int) (w : World) :
    Calls Try.prog 11 #[rc x y ww h] w fun e w' => e = .returned (.bool (vR x y ww h)) ∧ New w w' := by
  go_enter Try.func11, Try.ntmps11
  go_wp2_with (go_at_call 27; refine (valid_any _ _ _ _ _).mono ?_; rintro e w1 ⟨rfl, hb⟩)
  go_ret
  exact ⟨rfl, by (repeat (first | exact New.refl _ | assumption | refine New.alloc ?_ _ | refine New.drew ?_ | refine New.drewN ?_ _ | refine New.setCell ?_ (by first | omega | (simp; omega) | (simp; done)) _ | refine New.trans ?_ (by assumption)))⟩

set_option maxHeartbeats 400000 in
theorem right_any (x y ww h : Int) (w : World) (h1 : -200000 ≤ x) (h2 : x ≤ 200000) (h3 : 0 ≤ ww) (h4 : ww ≤ 400000) :
    Calls Try.prog 52 #[rc x y ww h] w fun e w' => e = .returned (.int .i64 (x + ww)) ∧ New w w' := by
  go_enter Try.func52, Try.ntmps52
  go_wp2
  go_ret
  exact ⟨rfl, by (repeat (first | exact New.refl _ | assumption | refine New.alloc ?_ _ | refine New.drew ?_ | refine New.drewN ?_ _ | refine New.setCell ?_ (by first | omega | (simp; omega) | (simp; done)) _ | refine New.trans ?_ (by assumption)))⟩

set_option maxHeartbeats 400000 in
theorem bottom_any (x y ww h : Int) (w : World) (h1 : -200000 ≤ y) (h2 : y ≤ 200000) (h3 : 0 ≤ h) (h4 : h ≤ 400000) :
    Calls Try.prog 53 #[rc x y ww h] w fun e w' => e = .returned (.int .i64 (y + h)) ∧ New w w' := by
  go_enter Try.func53, Try.ntmps53
  go_wp2
  go_ret
  exact ⟨rfl, by (repeat (first | exact New.refl _ | assumption | refine New.alloc ?_ _ | refine New.drew ?_ | refine New.drewN ?_ _ | refine New.setCell ?_ (by first | omega | (simp; omega) | (simp; done)) _ | refine New.trans ?_ (by assumption)))⟩

set_option maxHeartbeats 400000 in
theorem rectBetween_any (a b c d : Int) (w : World) (h1 : -1000000 ≤ a ∧ a ≤ 1000000) (h2 : -1000000 ≤ b ∧ b ≤ 1000000) (h3 : -1000000 ≤ c ∧ c ≤ 1000000) (h4 : -1000000 ≤ d ∧ d ≤ 1000000) :
    Calls Try.prog 51 #[.int .i64 a, .int .i64 b, .int .i64 c, .int .i64 d] w fun e w' => e = .returned (rc a b (c - a) (d - b)) ∧ New w w' := by
  go_enter Try.func51, Try.ntmps51
  go_wp2
  go_returns
  exact ⟨rfl, by (repeat (first | exact New.refl _ | assumption | refine New.alloc ?_ _ | refine New.drew ?_ | refine New.drewN ?_ _ | refine New.setCell ?_ (by first | omega | (simp; omega) | (simp; done)) _ | refine New.trans ?_ (by assumption)))⟩

end Go.Proofs.Ytnipnemhbelcaaa
