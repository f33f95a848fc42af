/- The reference's common part, hull and inset of valid rectangles, and the program's inset. Condition: the arguments are valid. -/
import Derived.Test.YtnipnemhbelcaaaRectB
namespace Go.Proofs.Ytnipnemhbelcaaa
open Go.RowKit

set_option maxHeartbeats 800000 in
theorem smeet_any (ax ay aw ah bx by' bw bh : Int) (w : World) (hv : vR ax ay aw ah = true) (hv' : vR bx by' bw bh = true) :
    Calls Try.prog 30 #[rc ax ay aw ah, rc bx by' bw bh] w fun e w' => e = .returned (.tuple #[rc (mx ax bx) (mx ay by') (mW ax aw bx bw) (mW ay ah by' bh), .bool (decide (0 < mW ax aw bx bw) && decide (0 < mW ay ah by' bh))]) ∧ New w w' := by
  obtain ⟨a1, a2, a3, a4, a5, a6, a7, a8⟩ := vR_iff.1 hv
  obtain ⟨b1, b2, b3, b4, b5, b6, b7, b8⟩ := vR_iff.1 hv'
  clear hv hv'
  have m1 := mx_bd ⟨a1, a2⟩ ⟨b1, b2⟩
  have m2 := mx_bd ⟨a3, a4⟩ ⟨b3, b4⟩
  have m3 := mn_bd (a := ax + aw) (b := bx + bw) (l := -100000) (u := 300000) (by omega) (by omega)
  have m4 := mn_bd (a := ay + ah) (b := by' + bh) (l := -100000) (u := 300000) (by omega) (by omega)
  have hmx := run_mx Try.prog
  have hmn := run_mn Try.prog
  unfold mW
  go_enter Try.func30, Try.ntmps30
  go_wp2
  all_goals (go_returns; exact ⟨ret_tb _ (by rw [Bool.eq_iff_iff]; simp; omega), by (repeat (first | exact New.refl _ | assumption | refine New.alloc ?_ _ | refine New.drew ?_ | refine New.drewN ?_ _ | refine New.setCell ?_ (by first | omega | (simp; omega) | (simp; done)) _ | refine New.trans ?_ (by assumption)))⟩)

set_option maxHeartbeats 800000 in
theorem shull_any (ax ay aw ah bx by' bw bh : Int) (w : World) (hv : vR ax ay aw ah = true) (hv' : vR bx by' bw bh = true) :
    Calls Try.prog 34 #[rc ax ay aw ah, rc bx by' bw bh] w fun e w' => e = .returned (rc (mn ax bx) (mn ay by') (uW ax aw bx bw) (uW ay ah by' bh)) ∧ New w w' := by
  obtain ⟨a1, a2, a3, a4, a5, a6, a7, a8⟩ := vR_iff.1 hv
  obtain ⟨b1, b2, b3, b4, b5, b6, b7, b8⟩ := vR_iff.1 hv'
  clear hv hv'
  have m1 := mn_bd ⟨a1, a2⟩ ⟨b1, b2⟩
  have m2 := mn_bd ⟨a3, a4⟩ ⟨b3, b4⟩
  have m3 := mx_bd (a := ax + aw) (b := bx + bw) (l := -100000) (u := 300000) (by omega) (by omega)
  have m4 := mx_bd (a := ay + ah) (b := by' + bh) (l := -100000) (u := 300000) (by omega) (by omega)
  have hmx := run_mx Try.prog
  have hmn := run_mn Try.prog
  unfold uW
  go_enter Try.func34, Try.ntmps34
  go_wp2
  go_returns
  exact ⟨rfl, by (repeat (first | exact New.refl _ | assumption | refine New.alloc ?_ _ | refine New.drew ?_ | refine New.drewN ?_ _ | refine New.setCell ?_ (by first | omega | (simp; omega) | (simp; done)) _ | refine New.trans ?_ (by assumption)))⟩


theorem ret_ii {a b c d : Int} (h1 : a = c) (h2 : b = d) : Ending.returned (.tuple #[.int .i64 a, .int .i64 b]) = .returned (.tuple #[.int .i64 c, .int .i64 d]) := by rw [h1, h2]

end Go.Proofs.Ytnipnemhbelcaaa
