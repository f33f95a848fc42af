/- take of a node, walked; the row of pointers to the nodes. Conditions: the nodes are linked. -/
import Derived.Test.YtffggmjhaaehlaaGreatDoorTreeX
namespace Go.Proofs.YtffggmjhaaehlaaGreatDoor
open Go.RowKit

/-- What taking a box leaves: p takes k, behind its last one l. -/
def takeW (w : World) (nb : Nat → Nat) (p k : Nat) : Option Nat → World
  | none => ((w.setCell ⟨nb k, 10, none⟩ (pv nb (some p))).setCell ⟨nb p, 11, none⟩ (pv nb (some k))).setCell ⟨nb p, 12, none⟩ (pv nb (some k))
  | some l => ((w.setCell ⟨nb k, 10, none⟩ (pv nb (some p))).setCell ⟨nb l, 13, none⟩ (pv nb (some k))).setCell ⟨nb p, 12, none⟩ (pv nb (some k))
section
variable {lo : Nat} {w w' : World} {nb : Nat → Nat} {zs : List Int} {k p g n i : Nat} {ar fi la ne : Nat → Option Nat}
set_option maxHeartbeats 1000000 in
theorem take_any (h : Nds lo w nb zs n ar fi la ne) (hp : p < n) (hk : k < n) (hl : ∀ l, la p = some l → l < n) :
    Calls Tryz.prog 49 #[.pointer (some ⟨nb p, 0, none⟩), .pointer (some ⟨nb k, 0, none⟩)] w fun e w' => e = .returned (.tuple #[]) ∧ w' = takeW w nb p k (la p) := by
  have f1 := h.fr k hk 10 (by omega)
  have f2 := h.fr p hp 11 (by omega)
  have f3 := h.fr p hp 12 (by omega)
  have h1 := h.set_ar hk (some p)
  have g1 := h1.la p hp
  have g0 := h.ar k hk
  rw [pv_some] at g1
  cases e : la p with
  | none =>
    rw [e, pv_none] at g1
    have g2 := h1.fi p hp
    have g3 := (h1.set_fi hp (some k)).la p hp
    simp only [pv_some] at g2 g3
    clear h h1 hl
    go_enter Tryz.func49, Tryz.ntmps49
    go_wp2
    go_end0
    exact ⟨rfl, rfl⟩
  | some l =>
    have hl' := hl l e
    rw [e, pv_some] at g1
    have f4 := h.fr l hl' 13 (by omega)
    have g2 := h1.ne l hl'
    have g3 := (h1.set_ne hl' (some k)).la p hp
    simp only [pv_some] at g2 g3
    clear h h1 hl
    go_enter Tryz.func49, Tryz.ntmps49
    go_wp2
    go_end0
    exact ⟨rfl, rfl⟩
theorem takeW_far (hp : p < n) (hk : k < n) (hl : ∀ l, la p = some l → l < n) {b : Nat} (hb : ∀ i, i < n → nb i ≠ b) : (takeW w nb p k (la p)).heap[b]? = w.heap[b]? := by
  cases e : la p with
  | none =>
    show ((_ : World).setCell _ _).heap[b]? = _
    rw [Below.heap_setCell _ _ _ _ (by have := hb p hp; simp; omega), Below.heap_setCell _ _ _ _ (by have := hb p hp; simp; omega), Below.heap_setCell _ _ _ _ (by have := hb k hk; simp; omega)]
  | some l =>
    have hl' := hl l e
    show ((_ : World).setCell _ _).heap[b]? = _
    rw [Below.heap_setCell _ _ _ _ (by have := hb p hp; simp; omega), Below.heap_setCell _ _ _ _ (by have := hb l hl'; simp; omega), Below.heap_setCell _ _ _ _ (by have := hb k hk; simp; omega)]
theorem takeW_new {w0 : World} (h : New w0 w) (hd : Nds w0.heap.size w nb zs n ar fi la ne) (hp : p < n) (hk : k < n) (hl : ∀ l, la p = some l → l < n) : New w0 (takeW w nb p k (la p)) := by
  cases e : la p with
  | none => exact ((h.setCell (hd.lo k hk) _).setCell (hd.lo p hp) _).setCell (hd.lo p hp) _
  | some l => exact ((h.setCell (hd.lo k hk) _).setCell (hd.lo l (hl l e)) _).setCell (hd.lo p hp) _
theorem takeW_size (w : World) (nb : Nat → Nat) (p k : Nat) (o : Option Nat) : (takeW w nb p k o).heap.size = w.heap.size := by
  cases o <;> simp [takeW, World.setCell]
/-- Box k is taken: one box more is linked. -/
theorem Lnk.take (h : Lnk lo w nb zs k ar fi la ne) {w4 : World} {nb' : Nat → Nat} (hd : Nds lo w4 nb' zs (k + 1) (upd ar k none) (upd fi k none) (upd la k none) (upd ne k none))
    (hP : PlaceP zs k) (hpar : par zs k = (p : Int)) (hpk : p < k) (hkb : k + 1 ≤ 1000) (hlk : Link zs (k + 1)) :
    ∃ ar' fi' la' ne', Lnk lo (takeW w4 nb' p k (upd la k none p)) nb' zs (k + 1) ar' fi' la' ne' := by
  have lp : upd la k none p = la p := upd_other (by omega)
  have shU : Shape zs k (upd fi k none) (upd la k none) (upd ne k none) :=
    ⟨fun a ha => by rw [upd_other (by omega)]; exact h.sh.fi a ha, fun a ha => by rw [upd_other (by omega)]; exact h.sh.la a ha,
      fun a done j rest ha e => by
        have hj := (kid_mem.1 (show j ∈ kidL zs k a by rw [e]; simp)).1
        rw [upd_other (by omega)]; exact h.sh.ne a done j rest ha e⟩
  have arU : Arnd zs (k + 1) (upd (upd ar k none) k (some p)) := fun i hi => by
    by_cases e : i = k
    · subst e; rw [upd_same, if_neg (by omega), hpar]; simp
    · rw [upd_other e, upd_other e]; exact h.ar i (by omega)
  have rgB : ∀ (q : Nat → Option Nat), (∀ i j, i < k → q i = some j → j < k) → ∀ i j, i < k + 1 → upd q k none i = some j → j < k + 1 := fun q hq i j hi e => by
    by_cases e2 : i = k
    · subst e2; rw [upd_same] at e; cases e
    · rw [upd_other e2] at e; have := hq i j (by omega) e; omega
  have rgU : ∀ (q : Nat → Option Nat), (∀ i j, i < k + 1 → q i = some j → j < k + 1) → ∀ (x : Nat) (v : Nat), v < k + 1 → ∀ i j, i < k + 1 → upd q x (some v) i = some j → j < k + 1 := fun q hq x v hv i j hi e => by
    by_cases e2 : i = x
    · subst e2; rw [upd_same] at e; obtain rfl := Option.some.inj e; exact hv
    · rw [upd_other e2] at e; exact hq i j hi e
  have d1 := hd.set_ar (i := k) (by omega) (some p)
  cases e : upd la k none p with
  | none =>
    have d2 := d1.set_fi (i := p) (by omega) (some k)
    have d3 := d2.set_la (i := p) (by omega) (some k)
    exact ⟨_, _, _, _, d3, ⟨rgU _ (rgB ar h.rg.ar) k p (by omega), rgU _ (rgB fi h.rg.fi) p k (by omega), rgU _ (rgB la h.rg.la) p k (by omega), rgB ne h.rg.ne⟩, arU,
      shU.first h.lk hpar hpk e (upd_same _ _ _) (upd_same _ _ _) (upd_same _ _ _), hlk, hkb⟩
  | some l =>
    obtain ⟨s, hl⟩ := shU.next h.lk hpar hpk e (upd_same _ _ _) (upd_same _ _ _) (upd_same _ _ _)
    have d2 := d1.set_ne (i := l) (by omega) (some k)
    have d3 := d2.set_la (i := p) (by omega) (some k)
    exact ⟨_, _, _, _, d3, ⟨rgU _ (rgB ar h.rg.ar) k p (by omega), rgB fi h.rg.fi, rgU _ (rgB la h.rg.la) p k (by omega), rgU _ (rgB ne h.rg.ne) l k (by omega)⟩, arU, s, hlk, hkb⟩
/-- The first box is linked by itself. -/
theorem Lnk.first (h : Nds lo w nb zs 1 (upd ar 0 none) (upd fi 0 none) (upd la 0 none) (upd ne 0 none)) (hlk : Link zs 1) : Lnk lo w nb zs 1 (upd ar 0 none) (upd fi 0 none) (upd la 0 none) (upd ne 0 none) := by
  have hu : ∀ (q : Nat → Option Nat) i j, i < 1 → upd q 0 none i = some j → j < 1 := fun q i j hi e => by
    obtain rfl : i = 0 := by omega
    rw [upd_same] at e; cases e
  exact ⟨h, ⟨hu ar, hu fi, hu la, hu ne⟩, fun i hi => by
    obtain rfl : i = 0 := by omega
    rw [upd_same, if_pos rfl], Shape.root (hlk.root (by omega)) (upd_same _ _ _) (upd_same _ _ _), hlk, by omega⟩
/-- The row of pointers: the first k lead to the nodes, the others nowhere. -/
structure PRow (w : World) (g : Nat) (nb : Nat → Nat) (k n : Nat) : Prop where
  lt : g < w.heap.size
  c : ∀ i, i < k → w.cell? ⟨g, i, none⟩ = some (.pointer (some ⟨nb i, 0, none⟩))
  z : ∀ i, k ≤ i → i < n → w.cell? ⟨g, i, none⟩ = some (.pointer none)
  f : ∀ i, i < n → w.frozen? ⟨g, i, none⟩ = false
theorem PRow.new (h : PRow w g nb k n) (hN : New w w') : PRow w' g nb k n :=
  ⟨Nat.lt_of_lt_of_le h.lt hN.le, fun i hi => (hN.cells _ _ h.lt).trans (h.c i hi), fun i h1 h2 => (hN.cells _ _ h.lt).trans (h.z i h1 h2), fun i hi => (hN.marks _ _ h.lt).trans (h.f i hi)⟩
theorem PRow.block (h : PRow w g nb k n) (hs : w.heap.size ≤ w'.heap.size) (hN : w'.heap[g]? = w.heap[g]?) : PRow w' g nb k n :=
  ⟨Nat.lt_of_lt_of_le h.lt hs, fun i hi => (World.cell?_of_block hN).trans (h.c i hi), fun i h1 h2 => (World.cell?_of_block hN).trans (h.z i h1 h2), fun i hi => (World.frozen?_of_block (w := w) hN).trans (h.f i hi)⟩
theorem PRow.step (h : PRow w g nb k n) (hk : k < n) (gk : Nat) : PRow (w.setCell ⟨g, k, none⟩ (.pointer (some ⟨gk, 0, none⟩))) g (nbx nb k gk) (k + 1) n := by
  have hz := h.z k (Nat.le_refl _) hk
  refine ⟨by simpa [World.setCell] using h.lt, fun i hi => ?_, fun i h1 h2 => ?_, fun i hi => set_frozen (h.f i hi)⟩
  · rw [set_cell_at hz]
    by_cases e : i = k
    · rw [if_pos e, e, nbx_new]
    · rw [if_neg e, nbx_old e]; exact h.c i (by omega)
  · rw [set_cell_at hz, if_neg (by omega)]
    exact h.z i (by omega) h2
theorem PRow.made (w : World) (n : Nat) (t : TypeId) (nb : Nat → Nat) : PRow (w.alloc (.cells (madeCells #[.pointer none] n) t)) w.heap.size nb 0 n := by
  refine ⟨by simp, fun i hi => absurd hi (by omega), fun i _ hi => ?_, fun i hi => by simp [go_sem]⟩
  have e : (w.alloc (.cells (madeCells #[.pointer none] n) t)).cell? ⟨w.heap.size, i, none⟩ = (madeCells #[.pointer none] n)[i]? := World.cell?_alloc_new w _ t i
  rw [e]
  simp [madeCells, hi, Nat.mod_one]
end
end Go.Proofs.YtffggmjhaaehlaaGreatDoor
