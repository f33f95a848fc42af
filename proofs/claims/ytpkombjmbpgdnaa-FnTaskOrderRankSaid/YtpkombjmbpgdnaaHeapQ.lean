/- Queues of tasks in the memory: the tasks of a queue as one list of numbers, and a pointer to a queue. No condition. -/
import Derived.Test.YtpkombjmbpgdnaaHeapM
import Derived.Test.YtpkombjmbpgdnaaTaskB
import Derived.Test.YtpkombjmbpgdnaaInsTask
namespace Go.Proofs.Ytpkombjmbpgdnaa
open Go.RowKit

/-- The numbers of the first n tasks. -/
def flatF (f : Nat → Tk) : Nat → List Int
  | 0 => []
  | n + 1 => flatF f n ++ [(f n).1, (f n).2.1, (f n).2.2]
def upd1 (f : Nat → Tk) (k : Nat) (t : Tk) (i : Nat) : Tk := if i = k then t else f i
/-- A task's numbers are within their limits. -/
def VT (t : Tk) : Prop := (0 ≤ t.1 ∧ t.1 ≤ 99) ∧ (0 ≤ t.2.1 ∧ t.2.1 ≤ 50) ∧ (0 ≤ t.2.2 ∧ t.2.2 ≤ 20)
section
variable {f g : Nat → Tk} {n k i j : Nat}
theorem getD_pl {xs ys : List Int} {i : Nat} (h : i < xs.length) : (xs ++ ys).getD i 0 = xs.getD i 0 := by
  rw [List.getD_eq_getElem?_getD, List.getElem?_append_left h, List.getD_eq_getElem?_getD]
theorem getD_pr {xs ys : List Int} {i : Nat} (h : xs.length ≤ i) : (xs ++ ys).getD i 0 = ys.getD (i - xs.length) 0 := by
  rw [List.getD_eq_getElem?_getD, List.getElem?_append_right h, List.getD_eq_getElem?_getD]
theorem flatF_len (f : Nat → Tk) : ∀ n, (flatF f n).length = n * 3
  | 0 => rfl
  | n + 1 => by
    show (flatF f n ++ [(f n).1, (f n).2.1, (f n).2.2]).length = _
    rw [List.length_append, flatF_len f n]; simp; omega
theorem flatF_at (f : Nat → Tk) {n k : Nat} (hk : k < n) : (flatF f n).getD (k * 3) 0 = (f k).1 ∧ (flatF f n).getD (k * 3 + 1) 0 = (f k).2.1 ∧ (flatF f n).getD (k * 3 + 2) 0 = (f k).2.2 := by
  induction n with
  | zero => omega
  | succ n ih =>
    have hl := flatF_len f n
    have e : flatF f (n + 1) = flatF f n ++ [(f n).1, (f n).2.1, (f n).2.2] := rfl
    rw [e]
    by_cases h : k < n
    · have ih := ih h
      rw [getD_pl (by rw [hl]; omega), getD_pl (by rw [hl]; omega), getD_pl (by rw [hl]; omega)]
      exact ih
    · obtain rfl : k = n := by omega
      rw [getD_pr (by rw [hl]; omega), getD_pr (by rw [hl]; omega), getD_pr (by rw [hl]; omega), hl]
      rw [show k * 3 - k * 3 = 0 by omega, show k * 3 + 1 - k * 3 = 1 by omega, show k * 3 + 2 - k * 3 = 2 by omega]
      exact ⟨rfl, rfl, rfl⟩
theorem flatF_congr : ∀ {n : Nat}, (∀ k, k < n → f k = g k) → flatF f n = flatF g n
  | 0, _ => rfl
  | n + 1, h => by
    show flatF f n ++ _ = flatF g n ++ _
    rw [flatF_congr fun k hk => h k (by omega), h n (by omega)]
theorem ext_flat {xs ys : List Int} (hl : xs.length = ys.length) (h : ∀ i, i < xs.length → xs.getD i 0 = ys.getD i 0) : xs = ys := by
  apply List.ext_getElem hl
  intro i h1 h2
  have := h i h1
  simpa [h1, h2] using this
theorem flatF_set (f : Nat → Tk) (t : Tk) (k n : Nat) : (((flatF f n).set (k * 3) t.1).set (k * 3 + 1) t.2.1).set (k * 3 + 2) t.2.2 = flatF (upd1 f k t) n := by
  have hl := flatF_len f n
  apply ext_flat
  · simp only [List.length_set]; rw [hl, flatF_len]
  · intro i hi
    simp only [List.length_set] at hi
    rw [hl] at hi
    rw [getD_set _ _ _ _ (by simp only [List.length_set]; omega), getD_set _ _ _ _ (by simp only [List.length_set]; omega), getD_set _ _ _ _ (by omega)]
    have hj : i / 3 < n := by omega
    obtain ⟨a0, a1, a2⟩ := flatF_at f hj
    obtain ⟨b0, b1, b2⟩ := flatF_at (upd1 f k t) hj
    have hc : i = i / 3 * 3 ∨ i = i / 3 * 3 + 1 ∨ i = i / 3 * 3 + 2 := by omega
    by_cases e : i / 3 = k
    · have u : upd1 f k t (i / 3) = t := if_pos e
      rw [u] at b0 b1 b2
      rcases hc with h | h | h
      · rw [if_neg (by omega), if_neg (by omega), if_pos (by omega), h, b0]
      · rw [if_neg (by omega), if_pos (by omega), h, b1]
      · rw [if_pos (by omega), h, b2]
    · have u : upd1 f k t (i / 3) = f (i / 3) := if_neg e
      rw [u] at b0 b1 b2
      rw [if_neg (by omega), if_neg (by omega), if_neg (by omega)]
      rcases hc with h | h | h
      · rw [h, a0, b0]
      · rw [h, a1, b1]
      · rw [h, a2, b2]
theorem upd_swp : upd1 (upd1 f i (f j)) j (f i) = swp f i j := by
  funext k
  unfold upd1 swp
  by_cases h1 : k = j
  · subst h1
    rw [if_pos rfl]
    by_cases h2 : k = i
    · subst h2; rw [if_pos rfl]
    · rw [if_neg h2, if_pos rfl]
  · rw [if_neg h1]
    by_cases h2 : k = i
    · rw [if_pos h2, if_pos h2]
    · rw [if_neg h2, if_neg h2, if_neg h1]
end
/-- Block P points to a queue of n tasks in block g. -/
structure Qu (lo : Nat) (w : World) (P g c n : Nat) (f : Nat → Tk) : Prop where
  cell : w.cell? ⟨P, 0, none⟩ = some (.slice (some ⟨g, 0, none⟩) n c)
  fz : w.frozen? ⟨P, 0, none⟩ = false
  own : OwnTask lo w (.slice (some ⟨g, 0, none⟩) n c) n (flatF f n)
  ne : g ≠ P
  lo_ : lo ≤ P
section
variable {lo P g c n k : Nat} {w w' : World} {f : Nat → Tk}
theorem Qu.lt (h : Qu lo w P g c n f) : P < w.heap.size := World.block_lt_of_cell? w _ h.cell
theorem Qu.new (h : Qu lo w P g c n f) (N : New w w') : Qu lo w' P g c n f :=
  ⟨(N.cells P 0 h.lt).trans h.cell, (N.marks P 0 h.lt).trans h.fz, h.own.new N, h.ne, h.lo_⟩
theorem Qu.row (h : Qu lo w P g c n f) : lo ≤ g ∧ g < w.heap.size ∧ n ≤ c ∧ Row w g (flatF f n) := by
  rcases h.own.form with ⟨e, _⟩ | ⟨g', c', e, hg, hR, hc, _⟩
  · cases e
  · injection e with e1 e2 e3
    injection e1 with e1
    injection e1 with e1
    subst e1 e3
    exact ⟨hg, hR.lt, hc, hR⟩
theorem Qu.congr {f' : Nat → Tk} (h : Qu lo w P g c n f) (e : ∀ k, k < n → f k = f' k) : Qu lo w P g c n f' := ⟨h.cell, h.fz, by rw [← flatF_congr e]; exact h.own, h.ne, h.lo_⟩
/-- The cells of a task. -/
theorem Qu.at_ (h : Qu lo w P g c n f) (hk : k < n) : w.cell? ⟨g, k * 3, none⟩ = some (.int .i64 (f k).1) ∧ w.cell? ⟨g, k * 3 + 1, none⟩ = some (.int .i64 (f k).2.1) ∧ w.cell? ⟨g, k * 3 + 2, none⟩ = some (.int .i64 (f k).2.2) := by
  obtain ⟨_, _, _, hR⟩ := h.row
  have hl := flatF_len f n
  obtain ⟨a0, a1, a2⟩ := flatF_at f hk
  exact ⟨by rw [← a0]; exact hR.c _ (by omega), by rw [← a1]; exact hR.c _ (by omega), by rw [← a2]; exact hR.c _ (by omega)⟩
theorem Qu.marks_ (h : Qu lo w P g c n f) (hk : k < n) : w.frozen? ⟨g, k * 3, none⟩ = false ∧ w.frozen? ⟨g, k * 3 + 1, none⟩ = false ∧ w.frozen? ⟨g, k * 3 + 2, none⟩ = false := by
  obtain ⟨_, _, _, hR⟩ := h.row
  have hl := flatF_len f n
  exact ⟨hR.f _ (by omega), hR.f _ (by omega), hR.f _ (by omega)⟩
end
end Go.Proofs.Ytpkombjmbpgdnaa
