/- Which tracks of a grid are valid: plain. No condition. -/
import Derived.Test.YtcoddhlfhmelkaaUpB
namespace Go.Proofs.Ytcoddhlfhmelkaa
open Go.RowKit

/-- A track is valid: its size and its part. -/
def okTr (s p : Int) : Bool := decide ((0 ≤ s ∧ s ≤ 10000) ∧ (0 ≤ p ∧ p ≤ 10) ∧ (s = 0 ∨ p = 0))
def trOk (zs : List Int) (k : Nat) : Bool := okTr (zs.getD (k * 2) 0) (zs.getD (k * 2 + 1) 0)
def trsB (n : Nat) (zs : List Int) : Bool := decide (1 ≤ (n : Int) ∧ (n : Int) ≤ 8) && allTo n (trOk zs)
section
variable {n : Nat} {zs : List Int}
theorem okTr_iff {s p : Int} : okTr s p = true ↔ (0 ≤ s ∧ s ≤ 10000) ∧ (0 ≤ p ∧ p ≤ 10) ∧ (s = 0 ∨ p = 0) := by unfold okTr; rw [decide_eq_true_eq]
theorem trsB_iff : trsB n zs = true ↔ (1 ≤ (n : Int) ∧ (n : Int) ≤ 8) ∧ ∀ k, k < n → trOk zs k = true := by
  unfold trsB; rw [Bool.and_eq_true, decide_eq_true_eq, allTo_iff]
end
end Go.Proofs.Ytcoddhlfhmelkaa
