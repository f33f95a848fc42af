/- ClampScroll and ScrollInto: either the arguments are not valid, or the answer is that of the plain functions. No condition. -/
import Derived.Test.YtacpodlbiphcfaaScrM
namespace Go.Proofs.Ytacpodlbiphcfaa
open Go.RowKit

theorem clA_or (c v a : Int) : clA c v a = -1 ∨ (vwB c v = true ∧ (-200000 ≤ a ∧ a ≤ 200000) ∧ clA c v a = clP c v a) := by
  cases hv : vwB c v
  · exact .inl (clA_no hv)
  · cases ha : decide (-200000 ≤ a ∧ a ≤ 200000)
    · exact .inl (clA_out ha)
    · exact .inr ⟨rfl, of_decide_eq_true ha, clA_at hv ha⟩
theorem siA_or (c v a l h : Int) : siA c v a l h = -1 ∨ (vwB c v = true ∧ ((0 ≤ a ∧ a ≤ mx 0 (c - v)) ∧ (0 ≤ l ∧ l ≤ h) ∧ 0 ≤ h ∧ h ≤ c) ∧ siA c v a l h = mn l (mx (h - v) a)) := by
  cases hs : siB c v a l h
  · exact .inl (siA_no hs)
  · obtain ⟨h1, h2, h3, h4⟩ := siB_iff.1 hs
    exact .inr ⟨h1, ⟨h2, h4, h3⟩, siA_at hs⟩
theorem siB_in {c v a l h : Int} (hv : vwB c v = true) (k : (0 ≤ a ∧ a ≤ mx 0 (c - v)) ∧ (0 ≤ l ∧ l ≤ h) ∧ 0 ≤ h ∧ h ≤ c) : siB c v a l h = true := siB_iff.2 ⟨hv, k.1, k.2.2, k.2.1⟩
end Go.Proofs.Ytacpodlbiphcfaa
