/- Drawn lists of numbers: what spoiling a list leaves: a short list of small numbers that can be read, and a reader that has moved on. Conditions: the list is short, its numbers are small. -/
import Derived.Test.YtffggmjhaaehlaaDoorApp
namespace Go.Proofs.YtffggmjhaaehlaaDoor
open Go.RowKit

theorem Sml.snoc {xs : List Int} {z : Int} (h : Sml xs) (hz : -1000000000 ≤ z ∧ z ≤ 1000000000) : Sml (xs ++ [z]) := fun y hy => by
  rcases List.mem_append.1 hy with h1 | h1
  · exact h y h1
  · rw [List.mem_singleton.1 h1]; exact hz
theorem Sml.nil : Sml [] := fun _ h => absurd h (by simp)
theorem Sml.set {xs : List Int} {z : Int} (h : Sml xs) (k : Nat) (hz : -1000000000 ≤ z ∧ z ≤ 1000000000) : Sml (xs.set k z) := fun y hy => by
  rcases List.mem_or_eq_of_mem_set hy with h1 | h1
  · exact h y h1
  · rw [h1]; exact hz
theorem Sml.drop {xs : List Int} (h : Sml xs) (k : Nat) : Sml (xs.drop k) := fun y hy => h y (List.mem_of_mem_drop hy)
theorem lit_at (zs : List Int) (w : World) (t : TypeId) (B : Nat) (hB : w.heap.size = B) : ∀ i, i < zs.length → (w.alloc (.cells (zs.map (Value.int .i64)).toArray t)).cell? ⟨B, i, none⟩ = some (.int .i64 (zs.getD i 0)) := fun i hi => by
  subst hB; exact lit_cells zs w t i hi
theorem one_sml {zs : List Int} {z : Int} (h : z ∈ zs) (hz : ∀ y ∈ zs, -1000000000 ≤ y ∧ y ≤ 1000000000) : -1000000000 ≤ z ∧ z ≤ 1000000000 := hz z h
/-- What a list that is drawn leaves: at most N small numbers that can be read; the reader moved on; nothing else turned. -/
def DrawnL (N s : Nat) (w : World) (a : Nat) (A : Option Addr) (m p : Nat) (e : Ending) (w' : World) : Prop :=
  ∃ (B : Option Addr) (n c : Nat) (ys : List Int), e = .returned (.slice B n c) ∧ (∀ w2, w'.grownBy w2 (some a) → Ints w2 B n ys) ∧ n ≤ N ∧ Sml ys ∧ (∃ q, q ≤ p + s ∧ Rdr w' a A m q) ∧ w.grownBy w' (some a)
/-- As before; the list begins a known block, or is none; it is no longer than its room. -/
def DrawnC (N s : Nat) (w : World) (a : Nat) (A : Option Addr) (m p : Nat) (e : Ending) (w' : World) : Prop :=
  ∃ (B : Option Addr) (n c : Nat) (ys : List Int), e = .returned (.slice B n c) ∧ (∀ w2, w'.grownBy w2 (some a) → Ints w2 B n ys) ∧ n ≤ N ∧ Sml ys ∧ (∃ q, q ≤ p + s ∧ Rdr w' a A m q) ∧ w.grownBy w' (some a) ∧ n ≤ c ∧ ((B = none ∧ n = 0) ∨ ∃ b off, B = some ⟨b, off, none⟩)
theorem DrawnC.less {N s : Nat} {w : World} {a : Nat} {A : Option Addr} {m p : Nat} {e : Ending} {w' : World} (h : DrawnC N s w a A m p e w') : DrawnL N s w a A m p e w' := by
  obtain ⟨B, n, c, ys, h1, h2, h3, h4, h5, h6, _⟩ := h
  exact ⟨B, n, c, ys, h1, h2, h3, h4, h5, h6⟩
theorem Own.plain {lo : Nat} {w : World} {A : Option Addr} {n c : Nat} {zs : List Int} (h : Own lo w (.slice A n c) zs) : (A = none ∧ n = 0) ∨ ∃ b off, A = some ⟨b, off, none⟩ := by
  rcases h.form with ⟨e, _⟩ | ⟨g, c', e, _⟩
  · injection e with e1 e2 e3
    exact .inl ⟨e1, e2⟩
  · injection e with e1 e2 e3
    exact .inr ⟨g, 0, e1⟩
end Go.Proofs.YtffggmjhaaehlaaDoor
