/- Plain facts: the parts that are seen come one behind the other, and a wider view sees them too. No condition. -/
import Derived.Test.YthgfkdgdblfogaaSeenM
namespace Go.Proofs.Ythgfkdgdblfogaa
open Go.RowKit

theorem snB_more {xs : List Int} {view at_ : Int} {q : Nat} (h : snB xs view at_ q = true) : snB xs (view + 50) at_ q = true := by
  unfold snB at *
  rw [decide_eq_true_eq] at *
  unfold mx mn at *
  omega
/-- The t-th part that is seen: its number, and that those before it have smaller ones. -/
theorem snTo_get {xs : List Int} {view at_ : Int} {m t : Nat} (ht : t < (snTo xs view at_ m).length) :
    ∃ q : Nat, (snTo xs view at_ m).getD t 0 = (q : Int) ∧ q < m ∧ snB xs view at_ q = true ∧ ∀ (p r : Nat), p < t → (snTo xs view at_ m).getD p 0 = (r : Int) → r < q := by
  unfold snTo at *
  rw [List.length_map] at ht
  have hs : ((List.range m).filter (snB xs view at_)).Pairwise (· < ·) := List.Pairwise.filter _ List.pairwise_lt_range
  have hm := List.mem_filter.1 (List.getElem_mem ht)
  refine ⟨((List.range m).filter (snB xs view at_))[t], by simp [ht], List.mem_range.1 hm.1, hm.2, fun p r hp hr => ?_⟩
  have hp2 : p < ((List.range m).filter (snB xs view at_)).length := by omega
  have h1 := List.pairwise_iff_getElem.1 hs p t hp2 ht hp
  simp [hp2] at hr
  omega
end Go.Proofs.Ythgfkdgdblfogaa
