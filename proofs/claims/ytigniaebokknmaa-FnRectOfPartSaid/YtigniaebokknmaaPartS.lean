/- PartOf of the reference, walked. Condition: the tree can be read. -/
import Derived.Test.YtigniaebokknmaaPartI
import Derived.Test.YtigniaebokknmaaZF
namespace Go.Proofs.Ytigniaebokknmaa
open Go.RowKit

theorem OwnBox.some_ {lo n : Nat} {w : World} {v : Value} {zs : List Int} (h : OwnBox lo w v n zs) (hp : 0 < n) : ∃ g c, v = .slice (some ⟨g, 0, none⟩) n c ∧ lo ≤ g ∧ Row w g zs ∧ n ≤ c ∧ zs.length = n * 9 := by
  rcases h.form with ⟨_, h0, _⟩ | ⟨g, c, rfl, hg, hR, hc, _⟩
  · omega
  · exact ⟨g, c, rfl, hg, hR, hc, h.2⟩
/-- The checks ahead of an edit: there is no such box. -/
theorem noBox_cases {n : Nat} {zs : List Int} {at_ : Int} (h : nodeOk n zs at_ = false) : vtB n zs = false ∨ (vtB n zs = true ∧ decide (0 ≤ at_ ∧ at_ ≤ (n : Int) - 1) = false) := by
  unfold nodeOk at h
  cases hv : vtB n zs
  · exact .inl rfl
  · rw [hv, Bool.true_and] at h; exact .inr ⟨rfl, h⟩
end Go.Proofs.Ytigniaebokknmaa
