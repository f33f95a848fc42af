/- Plain facts about whole numbers: when a rectangle is valid, when a point is in it, what the common part, the hull and the inset of rectangles are, as functions on numbers. No condition. -/
import Derived.Test.YtnipnemhbelcaaaBase
namespace Go.Proofs.Ytnipnemhbelcaaa

/-- A rectangle's four numbers are in their ranges. -/
def vR (x y w h : Int) : Bool := decide (-100000 ≤ x ∧ x ≤ 100000 ∧ -100000 ≤ y ∧ y ≤ 100000 ∧ 0 ≤ w ∧ w ≤ 200000 ∧ 0 ≤ h ∧ h ≤ 200000)
theorem vR_iff {x y w h : Int} : vR x y w h = true ↔ (-100000 ≤ x ∧ x ≤ 100000 ∧ -100000 ≤ y ∧ y ≤ 100000 ∧ 0 ≤ w ∧ w ≤ 200000 ∧ 0 ≤ h ∧ h ≤ 200000) := by
  unfold vR; simp
theorem vR_no {x y w h : Int} : vR x y w h = false ↔ ¬ (-100000 ≤ x ∧ x ≤ 100000 ∧ -100000 ≤ y ∧ y ≤ 100000 ∧ 0 ≤ w ∧ w ≤ 200000 ∧ 0 ≤ h ∧ h ≤ 200000) := by
  unfold vR; rw [decide_eq_false_iff_not]
/-- A point is in a rectangle (valid or not). -/
def hR (x y w h px py : Int) : Bool := decide (x ≤ px ∧ px < x + w ∧ y ≤ py ∧ py < y + h)
/-- A point is in a valid rectangle. -/
def iR (x y w h px py : Int) : Bool := vR x y w h && hR x y w h px py
theorem iR_iff {x y w h px py : Int} : iR x y w h px py = true ↔ (-100000 ≤ x ∧ x ≤ 100000 ∧ -100000 ≤ y ∧ y ≤ 100000 ∧ 0 ≤ w ∧ w ≤ 200000 ∧ 0 ≤ h ∧ h ≤ 200000) ∧ (x ≤ px ∧ px < x + w ∧ y ≤ py ∧ py < y + h) := by
  unfold iR hR; rw [Bool.and_eq_true, vR_iff, decide_eq_true_iff]
theorem iR_no {x y w h px py : Int} : iR x y w h px py = false ↔ ¬ ((-100000 ≤ x ∧ x ≤ 100000 ∧ -100000 ≤ y ∧ y ≤ 100000 ∧ 0 ≤ w ∧ w ≤ 200000 ∧ 0 ≤ h ∧ h ≤ 200000) ∧ (x ≤ px ∧ px < x + w ∧ y ≤ py ∧ py < y + h)) := by
  rw [← iR_iff, Bool.not_eq_true]

/-- The common part on one side: its size (it begins at 'mx'). -/
def mW (a s b t : Int) : Int := mn (a + s) (b + t) - mx a b
def mOk (ax ay aw ah bx by' bw bh : Int) : Bool := vR ax ay aw ah && vR bx by' bw bh && decide (0 < mW ax aw bx bw) && decide (0 < mW ay ah by' bh)
theorem mOk_iff {ax ay aw ah bx by' bw bh : Int} : mOk ax ay aw ah bx by' bw bh = true ↔ vR ax ay aw ah = true ∧ vR bx by' bw bh = true ∧ 0 < mW ax aw bx bw ∧ 0 < mW ay ah by' bh := by
  unfold mOk; simp [and_assoc]
/-- The hull on one side: its size (it begins at 'mn'). -/
def uW (a s b t : Int) : Int := mx (a + s) (b + t) - mn a b
def uOk (ax ay aw ah bx by' bw bh : Int) : Bool := vR ax ay aw ah && vR bx by' bw bh && vR (mn ax bx) (mn ay by') (uW ax aw bx bw) (uW ay ah by' bh)
theorem uOk_iff {ax ay aw ah bx by' bw bh : Int} : uOk ax ay aw ah bx by' bw bh = true ↔ vR ax ay aw ah = true ∧ vR bx by' bw bh = true ∧ vR (mn ax bx) (mn ay by') (uW ax aw bx bw) (uW ay ah by' bh) = true := by
  unfold uOk; simp [and_assoc]
/-- The inset on one side. -/
def nL (x w e : Int) : Int := x + mn e (w / 2)
def nW (w e : Int) : Int := mx 0 (w - 2 * e)
def nOk (x y w h e : Int) : Bool := vR x y w h && decide (0 ≤ e ∧ e ≤ 50) && vR (nL x w e) (nL y h e) (nW w e) (nW h e)
theorem nOk_iff {x y w h e : Int} : nOk x y w h e = true ↔ vR x y w h = true ∧ (0 ≤ e ∧ e ≤ 50) ∧ vR (nL x w e) (nL y h e) (nW w e) (nW h e) = true := by
  unfold nOk; simp [and_assoc]

end Go.Proofs.Ytnipnemhbelcaaa
