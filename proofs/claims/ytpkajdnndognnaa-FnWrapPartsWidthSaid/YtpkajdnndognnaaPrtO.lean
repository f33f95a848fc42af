/- Which parts of wrapped lines are valid: plain. No condition. -/
import Derived.Test.YtpkajdnndognnaaUpB
namespace Go.Proofs.Ytpkajdnndognnaa
open Go.RowKit

/-- A part is valid: its width and its height. -/
def okPr (s p : Int) : Bool := decide ((0 ≤ s ∧ s ≤ 10000) ∧ (0 ≤ p ∧ p ≤ 10000))
def prOk (zs : List Int) (k : Nat) : Bool := okPr (zs.getD (k * 2) 0) (zs.getD (k * 2 + 1) 0)
def prsB (n : Nat) (zs : List Int) : Bool := decide ((n : Int) ≤ 12) && allTo n (prOk zs)
section
variable {n : Nat} {zs : List Int}
theorem okPr_iff {s p : Int} : okPr s p = true ↔ (0 ≤ s ∧ s ≤ 10000) ∧ (0 ≤ p ∧ p ≤ 10000) := by unfold okPr; rw [decide_eq_true_eq]
theorem prsB_iff : prsB n zs = true ↔ (n : Int) ≤ 12 ∧ ∀ k, k < n → prOk zs k = true := by
  unfold prsB; rw [Bool.and_eq_true, decide_eq_true_eq, allTo_iff]
end
end Go.Proofs.Ytpkajdnndognnaa
