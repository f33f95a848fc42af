/- slices.IndexFunc and slices.ContainsFunc on a row of rectangles, over the predicates of chapter 16, walked. Conditions: the row can be read; the predicate answers at each of its rectangles. -/
import Derived.Test.YtpkajdnndognnaaUpB
import Derived.Test.YtpkajdnndognnaaRect
namespace Go.Proofs.Ytpkajdnndognnaa
open Go.RowKit

/-- One of the first n has a property. -/
def anyTo (n : Nat) (p : Nat → Bool) : Bool := decide (∃ k, k < n ∧ p k = true)
theorem anyTo_iff {n : Nat} {p : Nat → Bool} : anyTo n p = true ↔ ∃ k, k < n ∧ p k = true := by unfold anyTo; simp
theorem anyTo_step {n : Nat} (p : Nat → Bool) : anyTo (n + 1) p = (anyTo n p || p n) := by
  rw [Bool.eq_iff_iff, Bool.or_eq_true, anyTo_iff, anyTo_iff]
  constructor
  · rintro ⟨k, hk, h⟩
    by_cases e : k = n
    · subst e; exact .inr h
    · exact .inl ⟨k, by omega, h⟩
  · rintro (⟨k, hk, h⟩ | h)
    · exact ⟨k, by omega, h⟩
    · exact ⟨n, by omega, h⟩
theorem anyTo_no {n : Nat} {p : Nat → Bool} (h : ∀ i, i < n → p i = false) : anyTo n p = false := by
  rw [Bool.eq_false_iff]; intro e; obtain ⟨k, hk, hp⟩ := anyTo_iff.1 e; rw [h k hk] at hp; cases hp
end Go.Proofs.Ytpkajdnndognnaa
