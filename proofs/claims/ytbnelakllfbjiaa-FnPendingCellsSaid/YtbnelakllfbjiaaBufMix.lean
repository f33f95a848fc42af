/- Plain facts on rows that are written cell by cell with another row's numbers. No condition. -/
import Derived.Test.YtbnelakllfbjiaaBufQ
namespace Go.Proofs.Ytbnelakllfbjiaa
open Go.RowKit

/-- The first q numbers of xs, then those of ys. -/
def mix (xs ys : List Int) (q : Nat) : List Int := xs.take q ++ ys.drop q
theorem mix_zero (xs ys : List Int) : mix xs ys 0 = ys := by unfold mix; simp
theorem mix_all {xs ys : List Int} {n : Nat} (hx : xs.length = n) (hy : ys.length = n) : mix xs ys n = xs := by
  unfold mix
  rw [List.take_of_length_le (by omega), List.drop_of_length_le (by omega), List.append_nil]
theorem mix_len {xs ys : List Int} {q n : Nat} (hx : xs.length = n) (hy : ys.length = n) (hq : q ≤ n) : (mix xs ys q).length = n := by
  unfold mix; rw [List.length_append, List.length_take, List.length_drop]; omega
theorem mix_step {xs ys : List Int} {q : Nat} (hx : q < xs.length) (hy : q < ys.length) : (mix xs ys q).set q (xs.getD q 0) = mix xs ys (q + 1) := by
  unfold mix
  rw [List.set_append_right _ _ (by rw [List.length_take]; omega), take_snoc_i hx, List.append_assoc, List.drop_eq_getElem_cons hy]
  have e : q - (xs.take q).length = 0 := by rw [List.length_take]; omega
  rw [e]; rfl
theorem mix_ok {v : Int} {xs ys : List Int} {q : Nat} (h : okB v xs ys = true) (hq : q ≤ xs.length) : okB v xs (mix xs ys q) = true := by
  obtain ⟨h1, h2, h3, h4⟩ := okB_iff.1 h
  obtain ⟨a1, a2, a3⟩ := cellsB_iff.1 h2
  obtain ⟨b1, b2, b3⟩ := cellsB_iff.1 h3
  have hl := mix_len (xs := xs) (ys := ys) (q := q) rfl h1.symm hq
  refine okB_iff.2 ⟨hl.symm, h2, cellsB_iff.2 ⟨by omega, by omega, fun y hy => ?_⟩, h4⟩
  unfold mix at hy
  rcases List.mem_append.1 hy with h5 | h5
  · exact a3 y (List.mem_of_mem_take h5)
  · exact b3 y (List.mem_of_mem_drop h5)
theorem mix_wr {v : Int} {xs ys : List Int} {q : Nat} (h : okB v xs ys = true) (hq : q < xs.length) : wrOk v xs (mix xs ys q) (q : Int) (xs.getD q 0) = true := by
  refine wrOk_mk (mix_ok h (Nat.le_of_lt hq)) hq ?_
  obtain ⟨a1, a2, a3⟩ := cellsB_iff.1 (okB_iff.1 h).2.1
  have e : xs.getD q 0 = xs[q] := by simp [hq]
  unfold numB
  rw [e]; exact decide_eq_true (a3 _ (List.getElem_mem hq))
theorem New.new {a b c : World} (h : New a b) (k : New b c) : New a c := h.trans k
/-- Seven cells that a region reads. -/
def C7 (w : World) (g1 g2 b o : Nat) (a0 a1 a2 c0 c1 c2 y : Value) : Prop :=
  w.cell? ⟨g1, 0, none⟩ = some a0 ∧ w.cell? ⟨g1, 1, none⟩ = some a1 ∧ w.cell? ⟨g1, 2, none⟩ = some a2 ∧ w.cell? ⟨g2, 0, none⟩ = some c0 ∧ w.cell? ⟨g2, 1, none⟩ = some c1 ∧ w.cell? ⟨g2, 2, none⟩ = some c2 ∧ w.cell? ⟨b, o, none⟩ = some y
theorem C7.new {w w' : World} {g1 g2 b o : Nat} {a0 a1 a2 c0 c1 c2 y : Value} (h : C7 w g1 g2 b o a0 a1 a2 c0 c1 c2 y) (N : New w w') : C7 w' g1 g2 b o a0 a1 a2 c0 c1 c2 y := by
  obtain ⟨h1, h2, h3, h4, h5, h6, h7⟩ := h
  have k : ∀ (p q : Nat) (u : Value), w.cell? ⟨p, q, none⟩ = some u → w'.cell? ⟨p, q, none⟩ = some u := fun p q u e => (N.cells p q (World.block_lt_of_cell? w _ e)).trans e
  exact ⟨k _ _ _ h1, k _ _ _ h2, k _ _ _ h3, k _ _ _ h4, k _ _ _ h5, k _ _ _ h6, k _ _ _ h7⟩
theorem C7.sets {w : World} {g1 g2 b o k : Nat} {a0 a1 a2 c0 c1 c2 y : Value} (h : C7 w g1 g2 b o a0 a1 a2 c0 c1 c2 y) (h1 : g1 < k) (h2 : g2 < k) (h3 : b < k) (u0 u1 u2 : Value) : C7 (((w.setCell ⟨k, 0, none⟩ u0).setCell ⟨k, 1, none⟩ u1).setCell ⟨k, 2, none⟩ u2) g1 g2 b o a0 a1 a2 c0 c1 c2 y := by
  obtain ⟨e1, e2, e3, e4, e5, e6, e7⟩ := h
  have s : ∀ (W : World) (p q j : Nat) (u v : Value), p < k → W.cell? ⟨p, q, none⟩ = some u → (W.setCell ⟨k, j, none⟩ v).cell? ⟨p, q, none⟩ = some u := fun W p q j u v hp e => by rw [World.cell?_setCell_other _ _ _ _ (by first | omega | (simp; omega) | (simp; done))]; exact e
  have t : ∀ (p q : Nat) (u : Value), p < k → w.cell? ⟨p, q, none⟩ = some u → (((w.setCell ⟨k, 0, none⟩ u0).setCell ⟨k, 1, none⟩ u1).setCell ⟨k, 2, none⟩ u2).cell? ⟨p, q, none⟩ = some u := fun p q u hp e => s _ _ _ _ _ _ hp (s _ _ _ _ _ _ hp (s _ _ _ _ _ _ hp e))
  exact ⟨t _ _ _ h1 e1, t _ _ _ h1 e2, t _ _ _ h1 e3, t _ _ _ h2 e4, t _ _ _ h2 e5, t _ _ _ h2 e6, t _ _ _ h3 e7⟩
end Go.Proofs.Ytbnelakllfbjiaa
