/- The reference's common part, hull and inset of valid rectangles, and the program's inset. Condition: the arguments are valid. -/
import Derived.Test.YtadoemojppkmpaaRectB
namespace Go.Proofs.Ytadoemojppkmpaa
open Go.RowKit

set_option maxHeartbeats 800000 in
theorem smeet_any (ax ay aw ah bx by' bw bh : Int) (w : World) (hv : vR ax ay aw ah = true) (hv' : vR bx by' bw bh = true) :
    Calls Try.prog 46 #[rc ax ay aw ah, rc bx by' bw bh] w fun e w' => e = .returned (.tuple #[rc (mx ax bx) (mx ay by') (mW ax aw bx bw) (mW ay ah by' bh), .bool (decide (0 < mW ax aw bx bw) && decide (0 < mW ay ah by' bh))]) ∧ New w w' := by
  obtain ⟨a1, a2, a3, a4, a5, a6, a7, a8⟩ := vR_iff.1 hv
  obtain ⟨b1, b2, b3, b4, b5, b6, b7, b8⟩ := vR_iff.1 hv'
  clear hv hv'
  have m1 := mx_bd ⟨a1, a2⟩ ⟨b1, b2⟩
  have m2 := mx_bd ⟨a3, a4⟩ ⟨b3, b4⟩
  have m3 := mn_bd (a := ax + aw) (b := bx + bw) (l := -100000) (u := 300000) (by omega) (by omega)
  have m4 := mn_bd (a := ay + ah) (b := by' + bh) (l := -100000) (u := 300000) (by omega) (by omega)
  have hmx := run_mx Try.prog
  have hmn := run_mn Try.prog
  unfold mW
  go_enter Try.func46, Try.ntmps46
  go_wp2
  all_goals (go_returns; exact ⟨ret_tb _ (by rw [Bool.eq_iff_iff]; simp; omega), by (repeat (first | exact New.refl _ | assumption | refine New.alloc ?_ _ | refine New.drew ?_ | refine New.drewN ?_ _ | refine New.setCell ?_ (by first | omega | (simp; omega) | (simp; done)) _ | refine New.trans ?_ (by assumption)))⟩)

set_option maxHeartbeats 800000 in
theorem shull_any (ax ay aw ah bx by' bw bh : Int) (w : World) (hv : vR ax ay aw ah = true) (hv' : vR bx by' bw bh = true) :
    Calls Try.prog 49 #[rc ax ay aw ah, rc bx by' bw bh] w fun e w' => e = .returned (rc (mn ax bx) (mn ay by') (uW ax aw bx bw) (uW ay ah by' bh)) ∧ New w w' := by
  obtain ⟨a1, a2, a3, a4, a5, a6, a7, a8⟩ := vR_iff.1 hv
  obtain ⟨b1, b2, b3, b4, b5, b6, b7, b8⟩ := vR_iff.1 hv'
  clear hv hv'
  have m1 := mn_bd ⟨a1, a2⟩ ⟨b1, b2⟩
  have m2 := mn_bd ⟨a3, a4⟩ ⟨b3, b4⟩
  have m3 := mx_bd (a := ax + aw) (b := bx + bw) (l := -100000) (u := 300000) (by omega) (by omega)
  have m4 := mx_bd (a := ay + ah) (b := by' + bh) (l := -100000) (u := 300000) (by omega) (by omega)
  have hmx := run_mx Try.prog
  have hmn := run_mn Try.prog
  unfold uW
  go_enter Try.func49, Try.ntmps49
  go_wp2
  go_returns
  exact ⟨rfl, by (repeat (first | exact New.refl _ | assumption | refine New.alloc ?_ _ | refine New.drew ?_ | refine New.drewN ?_ _ | refine New.setCell ?_ (by first | omega | (simp; omega) | (simp; done)) _ | refine New.trans ?_ (by assumption)))⟩


set_option maxHeartbeats 400000 in
theorem sinset_any (x y ww h ed : Int) (w : World) (hv : vR x y ww h = true) (he1 : 0 ≤ ed) (he2 : ed ≤ 50) :
    Calls Try.prog 53 #[rc x y ww h, .int .i64 ed] w fun e w' => e = .returned (rc (nL x ww ed) (nL y h ed) (nW ww ed) (nW h ed)) ∧ New w w' := by
  obtain ⟨a1, a2, a3, a4, a5, a6, a7, a8⟩ := vR_iff.1 hv
  clear hv
  have m1 := mn_bd (a := ed) (b := ww / 2) (l := 0) (u := 100000) (by omega) (by omega)
  have m2 := mn_bd (a := ed) (b := h / 2) (l := 0) (u := 100000) (by omega) (by omega)
  have hmx := run_mx Try.prog
  have hmn := run_mn Try.prog
  unfold nL nW
  go_enter Try.func53, Try.ntmps53
  go_wp2
  go_returns
  exact ⟨rfl, by (repeat (first | exact New.refl _ | assumption | refine New.alloc ?_ _ | refine New.drew ?_ | refine New.drewN ?_ _ | refine New.setCell ?_ (by first | omega | (simp; omega) | (simp; done)) _ | refine New.trans ?_ (by assumption)))⟩

theorem ret_ii {a b c d : Int} (h1 : a = c) (h2 : b = d) : Ending.returned (.tuple #[.int .i64 a, .int .i64 b]) = .returned (.tuple #[.int .i64 c, .int .i64 d]) := by rw [h1, h2]

set_option maxHeartbeats 400000 in
theorem insetSide_any (f s ed : Int) (w : World) (h1 : -100000 ≤ f) (h2 : f ≤ 100000) (h3 : 0 ≤ s) (h4 : s ≤ 200000) (he1 : 0 ≤ ed) (he2 : ed ≤ 50) :
    Calls Try.prog 59 #[.int .i64 f, .int .i64 s, .int .i64 ed] w fun e w' => e = .returned (.tuple #[.int .i64 (nL f s ed), .int .i64 (nW s ed)]) ∧ w = w' := by
  have e1 : s < 2 * ed → nL f s ed = f + s / 2 ∧ nW s ed = 0 := fun h => by unfold nL nW mn mx; omega
  have e2 : ¬ s < 2 * ed → nL f s ed = f + ed ∧ nW s ed = s - 2 * ed := fun h => by unfold nL nW mn mx; omega
  by_cases hs : s < 2 * ed
  · obtain ⟨p1, p2⟩ := e1 hs
    have P1 := Lib.hid p1; have P2 := Lib.hid p2
    clear e1 e2 p1 p2
    go_enter Try.func59, Try.ntmps59
    go_wp2
    go_ret2
    exact ⟨ret_ii P1.out.symm P2.out.symm, rfl⟩
  · obtain ⟨p1, p2⟩ := e2 hs
    have P1 := Lib.hid p1; have P2 := Lib.hid p2
    clear e1 e2 p1 p2
    go_enter Try.func59, Try.ntmps59
    go_wp2
    go_ret2
    exact ⟨ret_ii P1.out.symm P2.out.symm, rfl⟩

set_option maxHeartbeats 400000 in
theorem inset_any (x y ww h ed : Int) (w : World) (hv : vR x y ww h = true) (he1 : 0 ≤ ed) (he2 : ed ≤ 50) :
    Calls Try.prog 51 #[rc x y ww h, .int .i64 ed] w fun e w' => e = .returned (rc (nL x ww ed) (nL y h ed) (nW ww ed) (nW h ed)) ∧ New w w' := by
  obtain ⟨a1, a2, a3, a4, a5, a6, a7, a8⟩ := vR_iff.1 hv
  clear hv
  go_enter Try.func51, Try.ntmps51
  go_wp2_with (go_at_call 59; refine (insetSide_any _ _ _ _ (by omega) (by omega) (by omega) (by omega) (by omega) (by omega)).mono ?_; rintro e w1 ⟨rfl, rfl⟩)
  go_returns
  exact ⟨rfl, by (repeat (first | exact New.refl _ | assumption | refine New.alloc ?_ _ | refine New.drew ?_ | refine New.drewN ?_ _ | refine New.setCell ?_ (by first | omega | (simp; omega) | (simp; done)) _ | refine New.trans ?_ (by assumption)))⟩

end Go.Proofs.Ytadoemojppkmpaa
