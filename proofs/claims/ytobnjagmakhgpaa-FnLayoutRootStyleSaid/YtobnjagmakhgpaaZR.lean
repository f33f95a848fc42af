/- Parts that belong together: Math, Rect, RectB, RectC. Conditions: as each part says. -/
import Derived.Test.YtobnjagmakhgpaaZA
import Derived.Test.YtobnjagmakhgpaaProg
import Derived.Test.YtobnjagmakhgpaaZC
import Derived.WalkKit
import Derived.WalkSpells
import Derived.WalkLawsBesides
import Derived.Handy
import Derived.Lib.Hide
import Derived.Deep.RegionHeld3
/- Plain facts about whole numbers: when a rectangle is valid, when a point is in it, what the common part, the hull and the inset of rectangles are, as functions on numbers. No condition. -/
namespace Go.Proofs.Ytobnjagmakhgpaa

/-- A rectangle's four numbers are in their ranges. -/
def vR (x y w h : Int) : Bool := decide (-100000 ≤ x ∧ x ≤ 100000 ∧ -100000 ≤ y ∧ y ≤ 100000 ∧ 0 ≤ w ∧ w ≤ 200000 ∧ 0 ≤ h ∧ h ≤ 200000)
theorem vR_iff {x y w h : Int} : vR x y w h = true ↔ (-100000 ≤ x ∧ x ≤ 100000 ∧ -100000 ≤ y ∧ y ≤ 100000 ∧ 0 ≤ w ∧ w ≤ 200000 ∧ 0 ≤ h ∧ h ≤ 200000) := by
  unfold vR; simp
theorem vR_no {x y w h : Int} : vR x y w h = false ↔ ¬ (-100000 ≤ x ∧ x ≤ 100000 ∧ -100000 ≤ y ∧ y ≤ 100000 ∧ 0 ≤ w ∧ w ≤ 200000 ∧ 0 ≤ h ∧ h ≤ 200000) := by
  unfold vR; rw [decide_eq_false_iff_not]
/-- A point is in a rectangle (valid or not). -/
def hR (x y w h px py : Int) : Bool := decide (x ≤ px ∧ px < x + w ∧ y ≤ py ∧ py < y + h)
/-- A point is in a valid rectangle. -/
def iR (x y w h px py : Int) : Bool := vR x y w h && hR x y w h px py
theorem iR_iff {x y w h px py : Int} : iR x y w h px py = true ↔ (-100000 ≤ x ∧ x ≤ 100000 ∧ -100000 ≤ y ∧ y ≤ 100000 ∧ 0 ≤ w ∧ w ≤ 200000 ∧ 0 ≤ h ∧ h ≤ 200000) ∧ (x ≤ px ∧ px < x + w ∧ y ≤ py ∧ py < y + h) := by
  unfold iR hR; rw [Bool.and_eq_true, vR_iff, decide_eq_true_iff]
theorem iR_no {x y w h px py : Int} : iR x y w h px py = false ↔ ¬ ((-100000 ≤ x ∧ x ≤ 100000 ∧ -100000 ≤ y ∧ y ≤ 100000 ∧ 0 ≤ w ∧ w ≤ 200000 ∧ 0 ≤ h ∧ h ≤ 200000) ∧ (x ≤ px ∧ px < x + w ∧ y ≤ py ∧ py < y + h)) := by
  rw [← iR_iff, Bool.not_eq_true]

/-- The common part on one side: its size (it begins at 'mx'). -/
def mW (a s b t : Int) : Int := mn (a + s) (b + t) - mx a b
def mOk (ax ay aw ah bx by' bw bh : Int) : Bool := vR ax ay aw ah && vR bx by' bw bh && decide (0 < mW ax aw bx bw) && decide (0 < mW ay ah by' bh)
theorem mOk_iff {ax ay aw ah bx by' bw bh : Int} : mOk ax ay aw ah bx by' bw bh = true ↔ vR ax ay aw ah = true ∧ vR bx by' bw bh = true ∧ 0 < mW ax aw bx bw ∧ 0 < mW ay ah by' bh := by
  unfold mOk; simp [and_assoc]
/-- The hull on one side: its size (it begins at 'mn'). -/
def uW (a s b t : Int) : Int := mx (a + s) (b + t) - mn a b
def uOk (ax ay aw ah bx by' bw bh : Int) : Bool := vR ax ay aw ah && vR bx by' bw bh && vR (mn ax bx) (mn ay by') (uW ax aw bx bw) (uW ay ah by' bh)
theorem uOk_iff {ax ay aw ah bx by' bw bh : Int} : uOk ax ay aw ah bx by' bw bh = true ↔ vR ax ay aw ah = true ∧ vR bx by' bw bh = true ∧ vR (mn ax bx) (mn ay by') (uW ax aw bx bw) (uW ay ah by' bh) = true := by
  unfold uOk; simp [and_assoc]
/-- The inset on one side. -/
def nL (x w e : Int) : Int := x + mn e (w / 2)
def nW (w e : Int) : Int := mx 0 (w - 2 * e)
def nOk (x y w h e : Int) : Bool := vR x y w h && decide (0 ≤ e ∧ e ≤ 50) && vR (nL x w e) (nL y h e) (nW w e) (nW h e)
theorem nOk_iff {x y w h e : Int} : nOk x y w h e = true ↔ vR x y w h = true ∧ (0 ≤ e ∧ e ≤ 50) ∧ vR (nL x w e) (nL y h e) (nW w e) (nW h e) = true := by
  unfold nOk; simp [and_assoc]

end Go.Proofs.Ytobnjagmakhgpaa

/- The rectangle functions of the program and of the reference answer the same: each is told by one function on numbers. No condition. -/
namespace Go.Proofs.Ytobnjagmakhgpaa
open Go.RowKit

abbrev rc (x y w h : Int) : Value := .agg #[.int .i64 x, .int .i64 y, .int .i64 w, .int .i64 h]
end Go.Proofs.Ytobnjagmakhgpaa

/- The rectangle functions of the program and of the reference answer the same (second part): points in rectangles, common parts, hulls and insets. No condition but valid arguments where the code has checked them. -/
namespace Go.Proofs.Ytobnjagmakhgpaa
open Go.RowKit

end Go.Proofs.Ytobnjagmakhgpaa

/- The reference's common part, hull and inset of valid rectangles, and the program's inset. Condition: the arguments are valid. -/
namespace Go.Proofs.Ytobnjagmakhgpaa
open Go.RowKit

set_option maxHeartbeats 400000 in
theorem sinset_any (x y ww h ed : Int) (w : World) (hv : vR x y ww h = true) (he1 : 0 ≤ ed) (he2 : ed ≤ 50) :
    Calls Try.prog 96 #[rc x y ww h, .int .i64 ed] w fun e w' => e = .returned (rc (nL x ww ed) (nL y h ed) (nW ww ed) (nW h ed)) ∧ New w w' := by
  obtain ⟨a1, a2, a3, a4, a5, a6, a7, a8⟩ := vR_iff.1 hv
  clear hv
  have m1 := mn_bd (a := ed) (b := ww / 2) (l := 0) (u := 100000) (by omega) (by omega)
  have m2 := mn_bd (a := ed) (b := h / 2) (l := 0) (u := 100000) (by omega) (by omega)
  have hmx := run_mx Try.prog
  have hmn := run_mn Try.prog
  unfold nL nW
  go_enter Try.func96, Try.ntmps96
  go_wp2
  go_returns
  exact ⟨rfl, by (repeat (first | exact New.refl _ | assumption | refine New.alloc ?_ _ | refine New.drew ?_ | refine New.drewN ?_ _ | refine New.setCell ?_ (by first | omega | (simp; omega) | (simp; done)) _ | refine New.trans ?_ (by assumption)))⟩

theorem ret_ii {a b c d : Int} (h1 : a = c) (h2 : b = d) : Ending.returned (.tuple #[.int .i64 a, .int .i64 b]) = .returned (.tuple #[.int .i64 c, .int .i64 d]) := by rw [h1, h2]

set_option maxHeartbeats 400000 in
theorem insetSide_any (f s ed : Int) (w : World) (h1 : -100000 ≤ f) (h2 : f ≤ 100000) (h3 : 0 ≤ s) (h4 : s ≤ 200000) (he1 : 0 ≤ ed) (he2 : ed ≤ 50) :
    Calls Try.prog 95 #[.int .i64 f, .int .i64 s, .int .i64 ed] w fun e w' => e = .returned (.tuple #[.int .i64 (nL f s ed), .int .i64 (nW s ed)]) ∧ w = w' := by
  have e1 : s < 2 * ed → nL f s ed = f + s / 2 ∧ nW s ed = 0 := fun h => by unfold nL nW mn mx; omega
  have e2 : ¬ s < 2 * ed → nL f s ed = f + ed ∧ nW s ed = s - 2 * ed := fun h => by unfold nL nW mn mx; omega
  by_cases hs : s < 2 * ed
  · obtain ⟨p1, p2⟩ := e1 hs
    have P1 := Lib.hid p1; have P2 := Lib.hid p2
    clear e1 e2 p1 p2
    go_enter Try.func95, Try.ntmps95
    go_wp2
    go_ret2
    exact ⟨ret_ii P1.out.symm P2.out.symm, rfl⟩
  · obtain ⟨p1, p2⟩ := e2 hs
    have P1 := Lib.hid p1; have P2 := Lib.hid p2
    clear e1 e2 p1 p2
    go_enter Try.func95, Try.ntmps95
    go_wp2
    go_ret2
    exact ⟨ret_ii P1.out.symm P2.out.symm, rfl⟩

set_option maxHeartbeats 400000 in
theorem inset_any (x y ww h ed : Int) (w : World) (hv : vR x y ww h = true) (he1 : 0 ≤ ed) (he2 : ed ≤ 50) :
    Calls Try.prog 75 #[rc x y ww h, .int .i64 ed] w fun e w' => e = .returned (rc (nL x ww ed) (nL y h ed) (nW ww ed) (nW h ed)) ∧ New w w' := by
  obtain ⟨a1, a2, a3, a4, a5, a6, a7, a8⟩ := vR_iff.1 hv
  clear hv
  go_enter Try.func75, Try.ntmps75
  go_wp2_with (go_at_call 95; refine (insetSide_any _ _ _ _ (by omega) (by omega) (by omega) (by omega) (by omega) (by omega)).mono ?_; rintro e w1 ⟨rfl, rfl⟩)
  go_returns
  exact ⟨rfl, by (repeat (first | exact New.refl _ | assumption | refine New.alloc ?_ _ | refine New.drew ?_ | refine New.drewN ?_ _ | refine New.setCell ?_ (by first | omega | (simp; omega) | (simp; done)) _ | refine New.trans ?_ (by assumption)))⟩

end Go.Proofs.Ytobnjagmakhgpaa
