/- Pairs in a row of their own, and what the sort leaves of the rest of the memory. No condition. -/
import Derived.Test.YtnipnemhbelcaaaShareI
namespace Go.Proofs.Ytnipnemhbelcaaa
open Go.RowKit Go.Lib Go.Sort

/-- Pairs in a row of their own. -/
structure RowP (w : World) (g : Nat) (ps : Array (Int × Int)) : Prop where
  lt : g < w.heap.size
  c0 : ∀ i, i < ps.size → w.cell? ⟨g, i * 2, none⟩ = some (.int .i64 ps[i]!.1)
  c1 : ∀ i, i < ps.size → w.cell? ⟨g, i * 2 + 1, none⟩ = some (.int .i64 ps[i]!.2)
  f : ∀ t, t < ps.size * 2 → w.frozen? ⟨g, t, none⟩ = false
theorem RowP.holds {w : World} {g : Nat} {ps : Array (Int × Int)} (h : RowP w g ps) : HoldsK encD 2 w g 0 ps := fun t ht => by
  rw [size_flatK] at ht
  rw [get_flatK _ _ _ _ ht, Nat.zero_add]
  refine ⟨?_, h.f t ht⟩
  rcases Nat.mod_two_eq_zero_or_one t with e | e
  · rw [e]
    have := h.c0 (t / 2) (by omega)
    rw [show t / 2 * 2 = t by omega] at this
    exact this
  · rw [e]
    have := h.c1 (t / 2) (by omega)
    rw [show t / 2 * 2 + 1 = t by omega] at this
    exact this
theorem RowP.of_holds {w : World} {g : Nat} {ps : Array (Int × Int)} (h : HoldsK encD 2 w g 0 ps) (hl : g < w.heap.size) : RowP w g ps := by
  have key : ∀ t, t < ps.size * 2 → w.cell? ⟨g, t, none⟩ = some ((encD ps[t / 2]!)[t % 2]!) ∧ w.frozen? ⟨g, t, none⟩ = false := fun t ht => by
    have hh := h t (by rw [size_flatK]; exact ht)
    rw [get_flatK _ _ _ _ ht, Nat.zero_add] at hh
    exact hh
  refine ⟨hl, fun i hi => ?_, fun i hi => ?_, fun t ht => (key t ht).2⟩
  · have hh := (key (i * 2) (by omega)).1
    rw [show i * 2 / 2 = i by omega, show i * 2 % 2 = 0 by omega] at hh
    exact hh
  · have hh := (key (i * 2 + 1) (by omega)).1
    rw [show (i * 2 + 1) / 2 = i by omega, show (i * 2 + 1) % 2 = 1 by omega] at hh
    exact hh
theorem RowP.new {w w' : World} {g : Nat} {ps : Array (Int × Int)} (h : RowP w g ps) (hN : New w w') : RowP w' g ps :=
  ⟨by have := hN.le; have := h.lt; omega, fun i hi => (hN.cells g _ h.lt).trans (h.c0 i hi), fun i hi => (hN.cells g _ h.lt).trans (h.c1 i hi), fun t ht => (hN.marks g t h.lt).trans (h.f t ht)⟩
theorem RowP.far {w : World} {g : Nat} {ps : Array (Int × Int)} (h : RowP w g ps) {p : Addr} (hp : p.block ≠ g) (u : Value) : RowP (w.setCell p u) g ps :=
  ⟨by have := h.lt; simpa [World.setCell] using this,
    fun i hi => (World.cell?_of_block (Below.heap_setCell _ _ _ _ (by simp; omega))).trans (h.c0 i hi),
    fun i hi => (World.cell?_of_block (Below.heap_setCell _ _ _ _ (by simp; omega))).trans (h.c1 i hi),
    fun t ht => by rw [World.frozen?_setCell]; exact h.f t ht⟩
/-- What the sort leaves of a block that it does not sort. -/
theorem sort_block (w : World) (g n : Nat) (d : Array (Int × Int)) (os : Array Obj) (a : Addr) (ha : a.block < w.heap.size) (hne : a.block ≠ g) : (sortWorldK encD 2 w g 0 n d os).cell? a = w.cell? a := by
  unfold sortWorldK
  rw [cell?_grow _ _ _ (by rw [size_putRowK]; exact ha), cell?_putRowK_other _ _ _ _ _ _ _ hne]
  rfl
theorem sort_size (w : World) (g n : Nat) (d : Array (Int × Int)) (os : Array Obj) : w.heap.size ≤ (sortWorldK encD 2 w g 0 n d os).heap.size := by
  unfold sortWorldK
  rw [size_grow, size_putRowK]
  exact Nat.le_add_right _ _
theorem sort_marks (w : World) (g n : Nat) (d : Array (Int × Int)) (os : Array Obj) (a : Addr) (ha : a.block < w.heap.size) : (sortWorldK encD 2 w g 0 n d os).frozen? a = w.frozen? a := by
  unfold sortWorldK
  rw [frozen?_grow _ _ _ (by rw [size_putRowK]; exact ha)]
  unfold putRowK
  rw [frozen?_putRow]
  rfl
theorem sort_new {u w : World} (h : New u w) (g n : Nat) (d : Array (Int × Int)) (os : Array Obj) (hg : u.heap.size ≤ g) : New u (sortWorldK encD 2 w g 0 n d os) := by
  refine ⟨h.os, h.tape, h.output, Nat.le_trans h.size (sort_size w g n d os), fun k hk => ?_⟩
  have hk' : k < w.heap.size := Nat.lt_of_lt_of_le hk h.size
  rw [← h.block k hk]
  unfold sortWorldK
  rw [heap_grow_old _ _ (by rw [size_putRowK]; exact hk')]
  unfold putRowK putRow mapBlock
  simp only [heap_ahead]
  rw [Array.getElem?_modify, if_neg (by omega)]
theorem Row.sort {w : World} {s : Nat} {zs : List Int} (h : Row w s zs) (g n : Nat) (d : Array (Int × Int)) (os : Array Obj) (hne : s ≠ g) : Row (sortWorldK encD 2 w g 0 n d os) s zs :=
  ⟨Nat.lt_of_lt_of_le h.lt (sort_size w g n d os), fun k hk => (sort_block w g n d os _ h.lt hne).trans (h.c k hk), fun k hk => (sort_marks w g n d os _ h.lt).trans (h.f k hk)⟩
theorem RowP.sort {w : World} {g : Nat} {ps d : Array (Int × Int)} (h : RowP w g ps) (n : Nat) (os : Array Obj) (hs : d.size = ps.size) : RowP (sortWorldK encD 2 w g 0 n d os) g d := by
  refine RowP.of_holds ?_ (Nat.lt_of_lt_of_le h.lt (sort_size w g n d os))
  unfold sortWorldK
  refine holdsK_grow encD 2 _ os g 0 d (by rw [size_putRowK]; exact h.lt) ?_
  exact holdsK_putRowK encD 2 _ g 0 ps d (holdsK_ahead encD 2 w n g 0 ps h.holds) hs
end Go.Proofs.Ytnipnemhbelcaaa
