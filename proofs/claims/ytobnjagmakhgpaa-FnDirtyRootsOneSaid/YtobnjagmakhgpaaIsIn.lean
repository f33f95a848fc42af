/- Asking whether a number is in a list (isIn of the laws), walked. Condition: the list can be read. -/
import Derived.Test.YtobnjagmakhgpaaZA
namespace Go.Proofs.Ytobnjagmakhgpaa
open Go.RowKit

def inL (xs : List Int) (i : Nat) : Bool := decide ((i : Int) ∈ xs)
theorem inL_yes {xs : List Int} {k i : Nat} (hk : k < xs.length) (h : xs.getD k 0 = (i : Int)) : inL xs i = true := by
  unfold inL
  rw [decide_eq_true_eq, ← h]
  have e : xs.getD k 0 = xs[k] := by simp [hk]
  rw [e]; exact List.getElem_mem hk
theorem inL_step {xs : List Int} {k i : Nat} (hk : k < xs.length) (h : xs.getD k 0 ≠ (i : Int)) (ha : inL (xs.take k) i = false) : inL (xs.take (k + 1)) i = false := by
  unfold inL at *
  rw [decide_eq_false_iff_not] at *
  rw [take_snoc_i hk]
  intro hm
  rcases List.mem_append.1 hm with h1 | h1
  · exact ha h1
  · exact h (List.mem_singleton.1 h1).symm
end Go.Proofs.Ytobnjagmakhgpaa
