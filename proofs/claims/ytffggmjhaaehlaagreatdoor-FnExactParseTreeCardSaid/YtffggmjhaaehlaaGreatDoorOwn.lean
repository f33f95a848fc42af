/- Slices of whole numbers that a call makes itself, and the helpers of the exact laws on such slices (toIntS, eqIntS, markIntS, heldIntS). Conditions: the slices can be read, or lie in a block of the call's own. -/
import Derived.Test.YtffggmjhaaehlaaGreatDoorInts
import Derived.Deep.OwnRows
namespace Go.Proofs.YtffggmjhaaehlaaGreatDoor
open Go.RowKit

/-- Block g holds the numbers zs, and may be written. -/
structure Row (w : World) (g : Nat) (zs : List Int) : Prop where
  lt : g < w.heap.size
  c : ∀ i, i < zs.length → w.cell? ⟨g, i, none⟩ = some (.int .i64 (zs.getD i 0))
  f : ∀ i, i < zs.length → w.frozen? ⟨g, i, none⟩ = false
theorem Row.new {w w' : World} {g : Nat} {zs : List Int} (h : Row w g zs) (hN : New w w') : Row w' g zs :=
  ⟨Nat.lt_of_lt_of_le h.lt hN.le, fun i hi => (hN.cells g i h.lt).trans (h.c i hi), fun i hi => (hN.marks g i h.lt).trans (h.f i hi)⟩
theorem Row.drewN {w : World} {g : Nat} {zs : List Int} (h : Row w g zs) (k : Nat) : Row (w.drewN k) g zs := ⟨h.lt, h.c, h.f⟩
theorem Row.far {w : World} {g : Nat} {zs : List Int} (h : Row w g zs) {p : Addr} (hp : p.block ≠ g) (u : Value) : Row (w.setCell p u) g zs :=
  ⟨by simpa [World.setCell] using h.lt, fun i hi => (World.cell?_of_block (Below.heap_setCell _ _ _ _ (by simp; omega))).trans (h.c i hi), fun i hi => (World.frozen?_of_block (w := w) (Below.heap_setCell _ _ _ _ (by simp; omega))).trans (h.f i hi)⟩
theorem getD_set (zs : List Int) (k i : Nat) (v : Int) (hi : i < zs.length) : (zs.set k v).getD i 0 = if k = i then v else zs.getD i 0 := by
  have h1 : (zs.set k v).getD i 0 = (zs.set k v)[i]'(by simpa using hi) := by simp [hi]
  have h2 : zs.getD i 0 = zs[i] := by simp [hi]
  rw [h1, h2, List.getElem_set]
theorem Row.set_ {w : World} {g : Nat} {zs : List Int} (h : Row w g zs) {k : Nat} (hk : k < zs.length) (v : Int) : Row (w.setCell ⟨g, k, none⟩ (.int .i64 v)) g (zs.set k v) := by
  refine ⟨by simpa [World.setCell] using h.lt, fun i hi => ?_, fun i hi => ?_⟩
  · have hi' : i < zs.length := by simpa using hi
    rw [getD_set zs k i v hi']
    by_cases e : k = i
    · subst e
      rw [if_pos rfl]
      simp [go_sem, h.c k hk]
    · rw [if_neg e, World.cell?_setCell_other _ _ _ _ (by simp; first | done | omega)]
      exact h.c i hi'
  · have hi' : i < zs.length := by simpa using hi
    have := h.f i hi'
    simpa [go_sem] using this
theorem Row.ints {w : World} {g : Nat} {zs : List Int} (h : Row w g zs) : Ints w (some ⟨g, 0, none⟩) zs.length zs :=
  ⟨rfl, fun _ => ⟨g, 0, rfl, h.lt, fun i hi => by simpa using h.c i hi⟩⟩
/-- A row of noughts, just made. -/
theorem Row.made (w : World) (n : Nat) (t : TypeId) : Row (w.alloc (.cells (madeCells #[.int .i64 0] n) t)) w.heap.size (List.replicate n 0) := by
  refine ⟨by simp, fun i hi => ?_, fun i hi => by simp [go_sem]⟩
  have hi' : i < n := by simpa using hi
  have e : (w.alloc (.cells (madeCells #[.int .i64 0] n) t)).cell? ⟨w.heap.size, i, none⟩ = (madeCells #[.int .i64 0] n)[i]? := World.cell?_alloc_new w _ t i
  rw [e]
  simp [madeCells, hi', Nat.mod_one]
/-- The first k of a list, then noughts. -/
def upTo (k : Nat) (xs : List Int) : List Int := xs.take k ++ List.replicate (xs.length - k) 0
theorem upTo_len (k : Nat) (xs : List Int) (h : k ≤ xs.length) : (upTo k xs).length = xs.length := by unfold upTo; simp; omega
theorem upTo_zero (xs : List Int) : upTo 0 xs = List.replicate xs.length 0 := by unfold upTo; simp
theorem upTo_all (xs : List Int) : upTo xs.length xs = xs := by unfold upTo; simp
theorem upTo_step (k : Nat) (xs : List Int) (h : k < xs.length) : (upTo k xs).set k (xs.getD k 0) = upTo (k + 1) xs := by
  unfold upTo
  rw [take_snoc_i h, List.set_append_right _ _ (by rw [List.length_take]; omega)]
  have e1 : k - (xs.take k).length = 0 := by simp; omega
  have e2 : xs.length - k = (xs.length - (k + 1)) + 1 := by omega
  rw [e1, e2, List.replicate_succ]
  simp

end Go.Proofs.YtffggmjhaaehlaaGreatDoor
