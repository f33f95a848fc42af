/- Rows of numbers that a call hands back, between two marks of the memory's size; what a change between two marks leaves of all others. Conditions: the slices can be read. -/
import Derived.Test.YtffggmjhaaehlaaGreatDoorOwn2
namespace Go.Proofs.YtffggmjhaaehlaaGreatDoor
open Go.RowKit

/-- Only blocks between two marks have turned, and new blocks are there. -/
structure Chg (lo hi : Nat) (w w' : World) : Prop where
  os : w'.os = w.os
  tape : w'.tape = w.tape
  output : w'.output = w.output
  size : w.heap.size ≤ w'.heap.size
  block : ∀ k, k < w.heap.size → ¬ (lo ≤ k ∧ k < hi) → w'.heap[k]? = w.heap[k]?
section
variable {lo hi lo' hi' g n : Nat} {w w1 w2 : World} {A : Option Addr} {zs xs : List Int}
theorem New.chg (h : New w w1) (lo hi : Nat) : Chg lo hi w w1 := ⟨h.os, h.tape, h.output, h.size, fun k hk _ => h.block k hk⟩
theorem Chg.refl (lo hi : Nat) (w : World) : Chg lo hi w w := ⟨rfl, rfl, rfl, Nat.le_refl _, fun _ _ _ => rfl⟩
theorem Chg.trans (h : Chg lo hi w w1) (k : Chg lo hi w1 w2) : Chg lo hi w w2 :=
  ⟨k.os.trans h.os, k.tape.trans h.tape, k.output.trans h.output, Nat.le_trans h.size k.size, fun i hi' hn => (k.block i (Nat.lt_of_lt_of_le hi' h.size) hn).trans (h.block i hi' hn)⟩
theorem Chg.of_grown (h : w.grownBy w1 (some g)) (h1 : lo ≤ g) (h2 : g < hi) : Chg lo hi w w1 :=
  ⟨h.os, h.tape, h.output, h.size, fun k hk hn => h.block k hk (fun e => hn (by have := Option.some.inj e; omega))⟩
theorem Chg.new (h : Chg lo hi w1 w2) (k : New w w1) (hl : w.heap.size ≤ lo) : New w w2 :=
  ⟨h.os.trans k.os, h.tape.trans k.tape, h.output.trans k.output, Nat.le_trans k.size h.size, fun i hi' => (h.block i (Nat.lt_of_lt_of_le hi' k.size) (by omega)).trans (k.block i hi')⟩
theorem Row.chg (h : Row w g zs) (k : Chg lo hi w w1) (hn : ¬ (lo ≤ g ∧ g < hi)) : Row w1 g zs :=
  ⟨Nat.lt_of_lt_of_le h.lt k.size, fun i hi' => (World.cell?_of_block (k.block g h.lt hn)).trans (h.c i hi'), fun i hi' => (World.frozen?_of_block (w := w) (k.block g h.lt hn)).trans (h.f i hi')⟩
/-- The numbers zs lie in a block between two marks, from its beginning on; where there are none, nothing is said. -/
def Res (lo hi : Nat) (w : World) (A : Option Addr) (zs : List Int) : Prop :=
  hi ≤ w.heap.size ∧ (0 < zs.length → ∃ g, A = some ⟨g, 0, none⟩ ∧ lo ≤ g ∧ g < hi ∧ Row w g zs)
theorem Res.le (h : Res lo hi w A zs) : hi ≤ w.heap.size := h.1
theorem Res.new (h : Res lo hi w A zs) (k : New w w1) : Res lo hi w1 A zs :=
  ⟨Nat.le_trans h.1 k.le, fun hz => by obtain ⟨g, e, h1, h2, hR⟩ := h.2 hz; exact ⟨g, e, h1, h2, hR.new k⟩⟩
theorem Res.chg (h : Res lo hi w A zs) (k : Chg lo' hi' w w1) (hd : hi ≤ lo' ∨ hi' ≤ lo) : Res lo hi w1 A zs :=
  ⟨Nat.le_trans h.1 k.size, fun hz => by obtain ⟨g, e, h1, h2, hR⟩ := h.2 hz; exact ⟨g, e, h1, h2, hR.chg k (by omega)⟩⟩
theorem Res.ints (h : Res lo hi w A zs) (hn : zs.length = n) : Ints w A n zs := by
  subst hn
  refine ⟨rfl, fun hz => ?_⟩
  obtain ⟨g, rfl, _, _, hR⟩ := h.2 hz
  exact ⟨g, 0, rfl, hR.lt, fun i hi' => by simpa using hR.c i hi'⟩
theorem Res.of_row (h : Row w1 g zs) (hg : lo ≤ g) : Res lo w1.heap.size w1 (some ⟨g, 0, none⟩) zs := ⟨Nat.le_refl _, fun _ => ⟨g, rfl, hg, h.lt, h⟩⟩
theorem Res.nil (lo : Nat) (w : World) (A : Option Addr) : Res lo w.heap.size w A [] := ⟨Nat.le_refl _, fun h => absurd h (by simp)⟩
end
/-- An answer that is a row of its own. -/
def Ans (w : World) (zs : List Int) (e : Ending) (w' : World) : Prop :=
  ∃ (A : Option Addr) (n c : Nat), e = .returned (.slice A n c) ∧ zs.length = n ∧ Res w.heap.size w'.heap.size w' A zs ∧ New w w'
theorem Ans.row {w w' : World} {g n c : Nat} {zs : List Int} {e : Ending} (he : e = .returned (.slice (some ⟨g, 0, none⟩) n c)) (hn : zs.length = n) (hg : w.heap.size ≤ g) (h : Row w' g zs) (hN : New w w') : Ans w zs e w' :=
  ⟨_, n, c, he, hn, Res.of_row h hg, hN⟩
theorem Ans.none_ {w w' : World} {e : Ending} (he : e = .returned (.slice none 0 0)) (hN : New w w') : Ans w [] e w' := ⟨_, 0, 0, he, rfl, Res.nil _ _ _, hN⟩
end Go.Proofs.YtffggmjhaaehlaaGreatDoor
