/- What the two boxed rectangles and the result's variable hold while a common part or a hull is reckoned, and that it stays so. No condition. -/
import Derived.Test.YtnipnemhbelcaaaRectB
namespace Go.Proofs.Ytnipnemhbelcaaa
open Go.RowKit

/-- What the two boxed rectangles and the result's variable hold while a common part or a hull is reckoned. -/
abbrev Two (w : World) (ax ay aw ah bx by' bw bh : Int) (w' : World) : Prop := New w w' ∧ w'.cell? ⟨w.heap.size, 0, none⟩ = some (.int .i64 ax) ∧ w'.cell? ⟨w.heap.size, 1, none⟩ = some (.int .i64 ay) ∧ w'.cell? ⟨w.heap.size, 2, none⟩ = some (.int .i64 aw) ∧ w'.cell? ⟨w.heap.size, 3, none⟩ = some (.int .i64 ah) ∧ w'.cell? ⟨w.heap.size + 1, 0, none⟩ = some (.int .i64 bx) ∧ w'.cell? ⟨w.heap.size + 1, 1, none⟩ = some (.int .i64 by') ∧ w'.cell? ⟨w.heap.size + 1, 2, none⟩ = some (.int .i64 bw) ∧ w'.cell? ⟨w.heap.size + 1, 3, none⟩ = some (.int .i64 bh) ∧ w'.cell? ⟨w.heap.size + 1 + 1, 0, none⟩ = some (cv w' ⟨w.heap.size + 1 + 1, 0, none⟩) ∧ w'.cell? ⟨w.heap.size + 1 + 1, 1, none⟩ = some (cv w' ⟨w.heap.size + 1 + 1, 1, none⟩) ∧ w'.cell? ⟨w.heap.size + 1 + 1, 2, none⟩ = some (cv w' ⟨w.heap.size + 1 + 1, 2, none⟩) ∧ w'.cell? ⟨w.heap.size + 1 + 1, 3, none⟩ = some (cv w' ⟨w.heap.size + 1 + 1, 3, none⟩) ∧ w'.frozen? ⟨w.heap.size + 1 + 1, 0, none⟩ = false ∧ w'.frozen? ⟨w.heap.size + 1 + 1, 1, none⟩ = false ∧ w'.frozen? ⟨w.heap.size + 1 + 1, 2, none⟩ = false ∧ w'.frozen? ⟨w.heap.size + 1 + 1, 3, none⟩ = false ∧ w.heap.size + 1 + 1 < w'.heap.size
section
variable {w w1 w2 : World} {ax ay aw ah bx by' bw bh : Int}
theorem two_keep (hb : New w1 w2) (h : Two w ax ay aw ah bx by' bw bh w1) : Two w ax ay aw ah bx by' bw bh w2 := by
  obtain ⟨h0, h1, h2, h3, h4, h5, h6, h7, h8, h9, h10, h11, h12, h13, h14, h15, h16, h17⟩ := h
  have hz := hb.le
  have c := hb.cells
  have m := hb.marks
  refine ⟨h0.trans hb, (c _ _ (by omega)).trans h1, (c _ _ (by omega)).trans h2, (c _ _ (by omega)).trans h3, (c _ _ (by omega)).trans h4, (c _ _ (by omega)).trans h5, (c _ _ (by omega)).trans h6, (c _ _ (by omega)).trans h7, (c _ _ (by omega)).trans h8,
    cv_of ?_, cv_of ?_, cv_of ?_, cv_of ?_, (m _ _ (by omega)).trans h13, (m _ _ (by omega)).trans h14, (m _ _ (by omega)).trans h15, (m _ _ (by omega)).trans h16, by omega⟩
  · rw [c _ _ (by omega), h9]; rfl
  · rw [c _ _ (by omega), h10]; rfl
  · rw [c _ _ (by omega), h11]; rfl
  · rw [c _ _ (by omega), h12]; rfl
theorem two_set {i : Nat} {u : Value} (h : Two w ax ay aw ah bx by' bw bh w1) : Two w ax ay aw ah bx by' bw bh (w1.setCell ⟨w.heap.size + 1 + 1, i, none⟩ u) := by
  obtain ⟨h0, h1, h2, h3, h4, h5, h6, h7, h8, h9, h10, h11, h12, h13, h14, h15, h16, h17⟩ := h
  have c : ∀ k o, k < w.heap.size + 1 + 1 → (w1.setCell ⟨w.heap.size + 1 + 1, i, none⟩ u).cell? ⟨k, o, none⟩ = w1.cell? ⟨k, o, none⟩ := fun k o hk => World.cell?_of_block (Below.heap_setCell _ _ _ _ (by simp; omega))
  have m : ∀ o, (w1.setCell ⟨w.heap.size + 1 + 1, i, none⟩ u).frozen? ⟨w.heap.size + 1 + 1, o, none⟩ = w1.frozen? ⟨w.heap.size + 1 + 1, o, none⟩ := fun o => by simp [go_sem]
  exact ⟨h0.setCell (by simp; omega) u, (c _ _ (by omega)).trans h1, (c _ _ (by omega)).trans h2, (c _ _ (by omega)).trans h3, (c _ _ (by omega)).trans h4, (c _ _ (by omega)).trans h5, (c _ _ (by omega)).trans h6, (c _ _ (by omega)).trans h7, (c _ _ (by omega)).trans h8,
    cv_set h9, cv_set h10, cv_set h11, cv_set h12, (m _).trans h13, (m _).trans h14, (m _).trans h15, (m _).trans h16, by simpa [World.setCell] using h17⟩
theorem two_store {u0 u1 u2 u3 : Value} (h : Two w ax ay aw ah bx by' bw bh w1) : Two w ax ay aw ah bx by' bw bh ((((w1.setCell ⟨w.heap.size + 1 + 1, 0, none⟩ u0).setCell ⟨w.heap.size + 1 + 1, 1, none⟩ u1).setCell ⟨w.heap.size + 1 + 1, 2, none⟩ u2).setCell ⟨w.heap.size + 1 + 1, 3, none⟩ u3) :=
  two_set (two_set (two_set (two_set h)))
end


end Go.Proofs.Ytnipnemhbelcaaa
