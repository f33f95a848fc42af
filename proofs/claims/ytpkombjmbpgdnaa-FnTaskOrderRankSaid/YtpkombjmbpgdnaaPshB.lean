/- slices.BinarySearchFunc over byId in a queue of tasks, walked. Conditions: the tasks can be read; their numbers ascend; at most 10. -/
import Derived.Test.YtpkombjmbpgdnaaPshM
import Derived.Deep.RegionHeld3
namespace Go.Proofs.Ytpkombjmbpgdnaa
open Go.RowKit

/-- In the midst of the search: before a the numbers are smaller, from b on they are not. -/
def Srch (zs : List Int) (n : Nat) (d : Int) (a b : Nat) : Prop := a ≤ b ∧ b ≤ n ∧ (∀ k, k < a → tid zs k < d) ∧ ∀ k, b ≤ k → k < n → d ≤ tid zs k
end Go.Proofs.Ytpkombjmbpgdnaa
