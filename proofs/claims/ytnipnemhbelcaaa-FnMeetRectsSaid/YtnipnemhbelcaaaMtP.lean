/- Plain facts on points and common parts: a point is in the common part exactly if it is in both. No condition. -/
import Derived.Test.YtnipnemhbelcaaaRectG
import Derived.Test.YtnipnemhbelcaaaPlain
namespace Go.Proofs.Ytnipnemhbelcaaa
open Go.RowKit

section
variable {ax ay aw ah bx by' bw bh px py : Int}
theorem meet_pt (h : mOk ax ay aw ah bx by' bw bh = true) : iR (mA ax ay aw ah bx by' bw bh) (mB ax ay aw ah bx by' bw bh) (mC ax ay aw ah bx by' bw bh) (mD ax ay aw ah bx by' bw bh) px py = (iR ax ay aw ah px py && iR bx by' bw bh px py) := by
  have eA : mA ax ay aw ah bx by' bw bh = mx ax bx := ifB_yes h _
  have eB : mB ax ay aw ah bx by' bw bh = mx ay by' := ifB_yes h _
  have eC : mC ax ay aw ah bx by' bw bh = mW ax aw bx bw := ifB_yes h _
  have eD : mD ax ay aw ah bx by' bw bh = mW ay ah by' bh := ifB_yes h _
  obtain ⟨h1, h2, h3, h4⟩ := mOk_iff.1 h
  rw [eA, eB, eC, eD]
  have v1 := vR_iff.1 h1
  have v2 := vR_iff.1 h2
  rw [Bool.eq_iff_iff, Bool.and_eq_true, iR_iff, iR_iff, iR_iff]
  unfold mW mn mx at *
  constructor
  · intro h; omega
  · intro h; omega
theorem meet_no (h1 : vR ax ay aw ah = true) (h2 : vR bx by' bw bh = true) (h : mOk ax ay aw ah bx by' bw bh = false) : (iR ax ay aw ah px py && iR bx by' bw bh px py) = false := by
  cases hm : (iR ax ay aw ah px py && iR bx by' bw bh px py)
  · rfl
  · exfalso
    rw [Bool.and_eq_true, iR_iff, iR_iff] at hm
    have : mOk ax ay aw ah bx by' bw bh = true := by
      rw [mOk_iff]
      unfold mW mn mx
      refine ⟨h1, h2, ?_, ?_⟩ <;> omega
    rw [this] at h; cases h
/-- Each side of a hull is one of a rectangle's. -/
theorem hull_side (h : uOk ax ay aw ah bx by' bw bh = true) : (uA ax ay aw ah bx by' bw bh = ax ∨ uA ax ay aw ah bx by' bw bh = bx) ∧ (uB ax ay aw ah bx by' bw bh = ay ∨ uB ax ay aw ah bx by' bw bh = by') ∧ (uA ax ay aw ah bx by' bw bh + uC ax ay aw ah bx by' bw bh = ax + aw ∨ uA ax ay aw ah bx by' bw bh + uC ax ay aw ah bx by' bw bh = bx + bw) ∧ (uB ax ay aw ah bx by' bw bh + uD ax ay aw ah bx by' bw bh = ay + ah ∨ uB ax ay aw ah bx by' bw bh + uD ax ay aw ah bx by' bw bh = by' + bh) ∧
    insB ax ay aw ah (uA ax ay aw ah bx by' bw bh) (uB ax ay aw ah bx by' bw bh) (uC ax ay aw ah bx by' bw bh) (uD ax ay aw ah bx by' bw bh) = true ∧ insB bx by' bw bh (uA ax ay aw ah bx by' bw bh) (uB ax ay aw ah bx by' bw bh) (uC ax ay aw ah bx by' bw bh) (uD ax ay aw ah bx by' bw bh) = true ∧ vR ax ay aw ah = true ∧ vR bx by' bw bh = true ∧ vR (uA ax ay aw ah bx by' bw bh) (uB ax ay aw ah bx by' bw bh) (uC ax ay aw ah bx by' bw bh) (uD ax ay aw ah bx by' bw bh) = true := by
  have eA : uA ax ay aw ah bx by' bw bh = mn ax bx := ifB_yes h _
  have eB : uB ax ay aw ah bx by' bw bh = mn ay by' := ifB_yes h _
  have eC : uC ax ay aw ah bx by' bw bh = uW ax aw bx bw := ifB_yes h _
  have eD : uD ax ay aw ah bx by' bw bh = uW ay ah by' bh := ifB_yes h _
  obtain ⟨h1, h2, h3⟩ := uOk_iff.1 h
  rw [eA, eB, eC, eD]
  refine ⟨?_, ?_, ?_, ?_, insB_yes ?_, insB_yes ?_, h1, h2, h3⟩ <;> (first | (unfold uW mn mx; omega) | (unfold mn; omega))
end
end Go.Proofs.Ytnipnemhbelcaaa
