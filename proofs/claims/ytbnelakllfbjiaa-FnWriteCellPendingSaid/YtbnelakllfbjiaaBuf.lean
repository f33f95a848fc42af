/- Two rows of numbers and a number (Buffers): what it means that they can be read, and the helpers of the exact laws on them. Conditions: the slices can be read, or lie in blocks of the call's own. -/
import Derived.Test.YtbnelakllfbjiaaRes
namespace Go.Proofs.Ytbnelakllfbjiaa
open Go.RowKit

/-- Block g holds three values, and may be written. -/
structure B3 (w : World) (g : Nat) (u0 u1 u2 : Value) : Prop where
  lt : g < w.heap.size
  c0 : w.cell? ⟨g, 0, none⟩ = some u0
  c1 : w.cell? ⟨g, 1, none⟩ = some u1
  c2 : w.cell? ⟨g, 2, none⟩ = some u2
  f0 : w.frozen? ⟨g, 0, none⟩ = false
  f1 : w.frozen? ⟨g, 1, none⟩ = false
  f2 : w.frozen? ⟨g, 2, none⟩ = false
section
variable {w w' w1 w2 : World} {g n c m d lo hi lo' hi' : Nat} {A B : Option Addr} {v : Int} {xs ys : List Int}
theorem Chg.set (w : World) (g o : Nat) (u : Value) : Chg g (g + 1) w (w.setCell ⟨g, o, none⟩ u) :=
  Chg.of_grown (own_set (World.grownBy.refl w (some g)) u) (Nat.le_refl g) (Nat.lt_succ_self g)
theorem B3.chg {u0 u1 u2 : Value} (h : B3 w g u0 u1 u2) (k : Chg lo hi w w') (hn : ¬ (lo ≤ g ∧ g < hi)) : B3 w' g u0 u1 u2 :=
  have hb := k.block g h.lt hn
  ⟨Nat.lt_of_lt_of_le h.lt k.size, (World.cell?_of_block hb).trans h.c0, (World.cell?_of_block hb).trans h.c1, (World.cell?_of_block hb).trans h.c2, (World.frozen?_of_block (w := w) hb).trans h.f0, (World.frozen?_of_block (w := w) hb).trans h.f1, (World.frozen?_of_block (w := w) hb).trans h.f2⟩
theorem B3.far {u0 u1 u2 : Value} {h o : Nat} (b : B3 w g u0 u1 u2) (hn : h ≠ g) (u : Value) : B3 (w.setCell ⟨h, o, none⟩ u) g u0 u1 u2 := b.chg (Chg.set w h o u) (by omega)
theorem B3.new {u0 u1 u2 : Value} (h : B3 w g u0 u1 u2) (hN : New w w') : B3 w' g u0 u1 u2 :=
  ⟨Nat.lt_of_lt_of_le h.lt hN.le, (hN.cells g _ h.lt).trans h.c0, (hN.cells g _ h.lt).trans h.c1, (hN.cells g _ h.lt).trans h.c2, (hN.marks g _ h.lt).trans h.f0, (hN.marks g _ h.lt).trans h.f1, (hN.marks g _ h.lt).trans h.f2⟩
theorem B3.laid (w : World) (u0 u1 u2 : Value) (t : TypeId) : B3 (w.alloc (.cells #[u0, u1, u2] t)) w.heap.size u0 u1 u2 :=
  ⟨by simp, by simp [go_sem], by simp [go_sem], by simp [go_sem], by simp [go_sem], by simp [go_sem], by simp [go_sem]⟩
theorem B3.laid_at {k : Nat} (w : World) (u0 u1 u2 : Value) (t : TypeId) (hk : w.heap.size = k) : B3 (w.alloc (.cells #[u0, u1, u2] t)) k u0 u1 u2 := hk ▸ B3.laid w u0 u1 u2 t
theorem B3.set0 {u0 u1 u2 : Value} (h : B3 w g u0 u1 u2) (u : Value) : B3 (w.setCell ⟨g, 0, none⟩ u) g u u1 u2 := by
  obtain ⟨h1, a0, a1, a2, b0, b1, b2⟩ := h
  exact ⟨by simpa [World.setCell] using h1, by simp [go_sem, a0], by rw [World.cell?_setCell_other _ _ _ _ (by simp)]; exact a1, by rw [World.cell?_setCell_other _ _ _ _ (by simp)]; exact a2, by simpa [go_sem] using b0, by simpa [go_sem] using b1, by simpa [go_sem] using b2⟩
theorem B3.set1 {u0 u1 u2 : Value} (h : B3 w g u0 u1 u2) (u : Value) : B3 (w.setCell ⟨g, 1, none⟩ u) g u0 u u2 := by
  obtain ⟨h1, a0, a1, a2, b0, b1, b2⟩ := h
  exact ⟨by simpa [World.setCell] using h1, by rw [World.cell?_setCell_other _ _ _ _ (by simp)]; exact a0, by simp [go_sem, a1], by rw [World.cell?_setCell_other _ _ _ _ (by simp)]; exact a2, by simpa [go_sem] using b0, by simpa [go_sem] using b1, by simpa [go_sem] using b2⟩
theorem B3.set2 {u0 u1 u2 : Value} (h : B3 w g u0 u1 u2) (u : Value) : B3 (w.setCell ⟨g, 2, none⟩ u) g u0 u1 u := by
  obtain ⟨h1, a0, a1, a2, b0, b1, b2⟩ := h
  exact ⟨by simpa [World.setCell] using h1, by rw [World.cell?_setCell_other _ _ _ _ (by simp)]; exact a0, by rw [World.cell?_setCell_other _ _ _ _ (by simp)]; exact a1, by simp [go_sem, a2], by simpa [go_sem] using b0, by simpa [go_sem] using b1, by simpa [go_sem] using b2⟩
theorem New.chgs {w0 : World} (h : New w0 w) (k : Chg lo hi w w') (hl : w0.heap.size ≤ lo) : New w0 w' := k.new h hl
theorem Chg.mono (h : Chg lo hi w w') (h1 : lo' ≤ lo) (h2 : hi ≤ hi') : Chg lo' hi' w w' :=
  ⟨h.os, h.tape, h.output, h.size, fun k hk hn => h.block k hk (fun hh => hn ⟨by omega, by omega⟩)⟩
theorem Res.mono (h : Res lo hi w A xs) (h1 : lo' ≤ lo) (h2 : hi ≤ hi') (h3 : hi' ≤ w.heap.size) : Res lo' hi' w A xs :=
  ⟨h3, fun hz => by obtain ⟨g, e, k1, k2, hR⟩ := h.2 hz; exact ⟨g, e, by omega, by omega, hR⟩⟩
/-- Two rows in blocks of their own, between two marks. -/
def Res2 (lo hi : Nat) (w : World) (A : Option Addr) (xs : List Int) (B : Option Addr) (ys : List Int) : Prop :=
  ∃ l1 h1 l2 h2, lo ≤ l1 ∧ h1 ≤ hi ∧ lo ≤ l2 ∧ h2 ≤ hi ∧ (h1 ≤ l2 ∨ h2 ≤ l1) ∧ hi ≤ w.heap.size ∧ Res l1 h1 w A xs ∧ Res l2 h2 w B ys
theorem Res2.new (h : Res2 lo hi w A xs B ys) (k : New w w1) : Res2 lo hi w1 A xs B ys := by
  obtain ⟨l1, h1, l2, h2, a1, a2, a3, a4, a5, a6, r1, r2⟩ := h
  exact ⟨l1, h1, l2, h2, a1, a2, a3, a4, a5, Nat.le_trans a6 k.le, r1.new k, r2.new k⟩
theorem Res2.chg (h : Res2 lo hi w A xs B ys) (k : Chg lo' hi' w w1) (hd : hi ≤ lo' ∨ hi' ≤ lo) : Res2 lo hi w1 A xs B ys := by
  obtain ⟨l1, h1, l2, h2, a1, a2, a3, a4, a5, a6, r1, r2⟩ := h
  exact ⟨l1, h1, l2, h2, a1, a2, a3, a4, a5, Nat.le_trans a6 k.size, r1.chg k (by omega), r2.chg k (by omega)⟩
theorem Res2.le (h : Res2 lo hi w A xs B ys) : hi ≤ w.heap.size := by obtain ⟨_, _, _, _, _, _, _, _, _, a6, _⟩ := h; exact a6
theorem Res2.intsA (h : Res2 lo hi w A xs B ys) (hn : xs.length = n) : Ints w A n xs := by obtain ⟨_, _, _, _, _, _, _, _, _, _, r1, r2⟩ := h; exact r1.ints hn
theorem Res2.intsB (h : Res2 lo hi w A xs B ys) (hn : ys.length = m) : Ints w B m ys := by obtain ⟨_, _, _, _, _, _, _, _, _, _, r1, r2⟩ := h; exact r2.ints hn
theorem Res2.mono (h : Res2 lo hi w A xs B ys) (k1 : lo' ≤ lo) (k2 : hi ≤ hi') (k3 : hi' ≤ w.heap.size) : Res2 lo' hi' w A xs B ys := by
  obtain ⟨l1, h1, l2, h2, a1, a2, a3, a4, a5, a6, r1, r2⟩ := h
  exact ⟨l1, h1, l2, h2, by omega, by omega, by omega, by omega, a5, k3, r1, r2⟩
theorem Res2.mk {l1 h1 l2 h2 : Nat} (a1 : lo ≤ l1) (a2 : h1 ≤ hi) (a3 : lo ≤ l2) (a4 : h2 ≤ hi) (a5 : h1 ≤ l2 ∨ h2 ≤ l1) (a6 : hi ≤ w.heap.size) (r1 : Res l1 h1 w A xs) (r2 : Res l2 h2 w B ys) : Res2 lo hi w A xs B ys :=
  ⟨l1, h1, l2, h2, a1, a2, a3, a4, a5, a6, r1, r2⟩
end
/-- An answer that is buffers of its own. -/
def AnsB (w : World) (v : Int) (xs ys : List Int) (e : Ending) (w' : World) : Prop :=
  ∃ (A : Option Addr) (n c : Nat) (B : Option Addr) (m d : Nat), e = .returned (.agg #[.slice A n c, .slice B m d, .int .i64 v]) ∧ xs.length = n ∧ ys.length = m ∧ Res2 w.heap.size w'.heap.size w' A xs B ys ∧ New w w'
/-- An answer that is buffers of its own, and a truth value. -/
def AnsBT (w : World) (ok : Bool) (v : Int) (xs ys : List Int) (e : Ending) (w' : World) : Prop :=
  ∃ (A : Option Addr) (n c : Nat) (B : Option Addr) (m d : Nat), e = .returned (.tuple #[.agg #[.slice A n c, .slice B m d, .int .i64 v], .bool ok]) ∧ xs.length = n ∧ ys.length = m ∧ Res2 w.heap.size w'.heap.size w' A xs B ys ∧ New w w'
theorem AnsBT.no {w w' : World} {e : Ending} (he : e = .returned (.tuple #[.agg #[.slice none 0 0, .slice none 0 0, .int .i64 0], .bool false])) (hN : New w w') : AnsBT w false 0 [] [] e w' :=
  ⟨none, 0, 0, none, 0, 0, he, rfl, rfl, Res2.mk (Nat.le_refl _) (hN.le) (Nat.le_refl _) (Nat.le_refl _) (.inl (Nat.le_refl _)) (Nat.le_refl _) ⟨hN.le, fun h => absurd h (by simp)⟩ ⟨Nat.le_refl _, fun h => absurd h (by simp)⟩, hN⟩

end Go.Proofs.Ytbnelakllfbjiaa
