/- nodeAt and count of the program, walked. Condition: the tree can be read. -/
import Derived.Test.YtffggmjhaaehlaaGreatDoorTreeK
import Derived.Lib.SliceRun
namespace Go.Proofs.YtffggmjhaaehlaaGreatDoor
open Go.RowKit

/-- There is such a box in a valid tree. -/
def nodeOk (n : Nat) (zs : List Int) (at_ : Int) : Bool := vtB n zs && decide (0 ≤ at_ ∧ at_ ≤ (n : Int) - 1)
theorem nodeOk_iff {n : Nat} {zs : List Int} {at_ : Int} : nodeOk n zs at_ = true ↔ vtB n zs = true ∧ ∃ i : Nat, at_ = (i : Int) ∧ i < n := by
  unfold nodeOk
  rw [Bool.and_eq_true, decide_eq_true_eq]
  constructor
  · rintro ⟨h1, h2⟩; exact ⟨h1, at_.toNat, by omega, by omega⟩
  · rintro ⟨h1, i, rfl, h2⟩; exact ⟨h1, by omega⟩
end Go.Proofs.YtffggmjhaaehlaaGreatDoor
