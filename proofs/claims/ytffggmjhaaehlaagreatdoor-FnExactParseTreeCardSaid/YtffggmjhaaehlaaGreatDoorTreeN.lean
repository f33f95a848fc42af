/- The nodes of a tree in the memory: each in a block of its own, with pointers to others; what a store and a new node leave. No condition. -/
import Derived.Test.YtffggmjhaaehlaaGreatDoorTreeV
import Derived.Test.YtffggmjhaaehlaaGreatDoorApp
namespace Go.Proofs.YtffggmjhaaehlaaGreatDoor
open Go.RowKit

/-- A pointer to a node, or nil. -/
def pv (nb : Nat → Nat) : Option Nat → Value
  | none => .pointer none
  | some j => .pointer (some ⟨nb j, 0, none⟩)
theorem pv_none (nb : Nat → Nat) : pv nb none = .pointer none := rfl
theorem pv_some (nb : Nat → Nat) (j : Nat) : pv nb (some j) = .pointer (some ⟨nb j, 0, none⟩) := rfl
/-- The first k boxes lie as nodes in the blocks nb, with these pointers. -/
structure Nds (lo : Nat) (w : World) (nb : Nat → Nat) (zs : List Int) (k : Nat) (ar fi la ne : Nat → Option Nat) : Prop where
  lo : ∀ i, i < k → lo ≤ nb i
  lt : ∀ i, i < k → nb i < w.heap.size
  inj : ∀ i j, i < k → j < k → nb i = nb j → i = j
  box : ∀ i, i < k → ∀ j, j < 9 → w.cell? ⟨nb i, j, none⟩ = some (.int .i64 (zs.getD (i * 9 + j) 0))
  num : ∀ i, i < k → w.cell? ⟨nb i, 9, none⟩ = some (.int .i64 (i : Int))
  ar : ∀ i, i < k → w.cell? ⟨nb i, 10, none⟩ = some (pv nb (ar i))
  fi : ∀ i, i < k → w.cell? ⟨nb i, 11, none⟩ = some (pv nb (fi i))
  la : ∀ i, i < k → w.cell? ⟨nb i, 12, none⟩ = some (pv nb (la i))
  ne : ∀ i, i < k → w.cell? ⟨nb i, 13, none⟩ = some (pv nb (ne i))
  fr : ∀ i, i < k → ∀ j, j < 14 → w.frozen? ⟨nb i, j, none⟩ = false
/-- All pointers of the first k nodes lead to some of them. -/
structure Rng (k : Nat) (ar fi la ne : Nat → Option Nat) : Prop where
  ar : ∀ i j, i < k → ar i = some j → j < k
  fi : ∀ i j, i < k → fi i = some j → j < k
  la : ∀ i j, i < k → la i = some j → j < k
  ne : ∀ i j, i < k → ne i = some j → j < k
/-- The boxes around, as pointers tell them. -/
def Arnd (zs : List Int) (k : Nat) (ar : Nat → Option Nat) : Prop := ∀ i, i < k → ar i = if i = 0 then none else some (par zs i).toNat
section
variable {lo : Nat} {w w' : World} {nb : Nat → Nat} {zs : List Int} {k i j : Nat} {ar fi la ne : Nat → Option Nat} {o : Option Nat}
theorem Nds.new (h : Nds lo w nb zs k ar fi la ne) (hN : New w w') : Nds lo w' nb zs k ar fi la ne :=
  ⟨h.lo, fun i hi => Nat.lt_of_lt_of_le (h.lt i hi) hN.le, h.inj, fun i hi j hj => (hN.cells _ _ (h.lt i hi)).trans (h.box i hi j hj), fun i hi => (hN.cells _ _ (h.lt i hi)).trans (h.num i hi),
    fun i hi => (hN.cells _ _ (h.lt i hi)).trans (h.ar i hi), fun i hi => (hN.cells _ _ (h.lt i hi)).trans (h.fi i hi), fun i hi => (hN.cells _ _ (h.lt i hi)).trans (h.la i hi), fun i hi => (hN.cells _ _ (h.lt i hi)).trans (h.ne i hi),
    fun i hi j hj => (hN.marks _ _ (h.lt i hi)).trans (h.fr i hi j hj)⟩
/-- A store elsewhere. -/
theorem Nds.far (h : Nds lo w nb zs k ar fi la ne) {p : Addr} (hp : ∀ i, i < k → p.block ≠ nb i) (u : Value) : Nds lo (w.setCell p u) nb zs k ar fi la ne := by
  have hc : ∀ i, i < k → ∀ j, (w.setCell p u).cell? ⟨nb i, j, none⟩ = w.cell? ⟨nb i, j, none⟩ := fun i hi j => World.cell?_of_block (Below.heap_setCell _ _ _ _ (fun e => hp i hi e.symm))
  exact ⟨h.lo, fun i hi => by simpa [World.setCell] using h.lt i hi, h.inj, fun i hi j hj => (hc i hi j).trans (h.box i hi j hj), fun i hi => (hc i hi 9).trans (h.num i hi),
    fun i hi => (hc i hi 10).trans (h.ar i hi), fun i hi => (hc i hi 11).trans (h.fi i hi), fun i hi => (hc i hi 12).trans (h.la i hi), fun i hi => (hc i hi 13).trans (h.ne i hi),
    fun i hi j hj => (World.frozen?_of_block (w := w) (Below.heap_setCell _ _ _ _ (fun e => hp i hi e.symm))).trans (h.fr i hi j hj)⟩
theorem set_cell_at {w : World} {b f j : Nat} {v u : Value} (h : w.cell? ⟨b, f, none⟩ = some v) : (w.setCell ⟨b, f, none⟩ u).cell? ⟨b, j, none⟩ = if j = f then some u else w.cell? ⟨b, j, none⟩ := by
  by_cases e : j = f
  · subst e; rw [if_pos rfl]; simp [go_sem, h]
  · rw [if_neg e, World.cell?_setCell_other _ _ _ _ (by simp; first | done | omega)]
theorem set_frozen {w : World} {p q : Addr} {u : Value} (h : w.frozen? q = false) : (w.setCell p u).frozen? q = false := by simpa [go_sem] using h
/-- A pointer of node i is turned: the general step. -/
theorem Nds.turn (h : Nds lo w nb zs k ar fi la ne) (hi : i < k) (f : Nat) (hf : 10 ≤ f) (hf2 : f < 14) (o : Option Nat) :
    Nds lo (w.setCell ⟨nb i, f, none⟩ (pv nb o)) nb zs k (if f = 10 then upd ar i o else ar) (if f = 11 then upd fi i o else fi) (if f = 12 then upd la i o else la) (if f = 13 then upd ne i o else ne) := by
  have hcell : ∃ v, w.cell? ⟨nb i, f, none⟩ = some v := by
    rcases (by omega : f = 10 ∨ f = 11 ∨ f = 12 ∨ f = 13) with e | e | e | e
    · exact ⟨_, e ▸ h.ar i hi⟩
    · exact ⟨_, e ▸ h.fi i hi⟩
    · exact ⟨_, e ▸ h.la i hi⟩
    · exact ⟨_, e ▸ h.ne i hi⟩
  obtain ⟨v, hv⟩ := hcell
  have hc : ∀ i', i' < k → ∀ j, (w.setCell ⟨nb i, f, none⟩ (pv nb o)).cell? ⟨nb i', j, none⟩ = if i' = i ∧ j = f then some (pv nb o) else w.cell? ⟨nb i', j, none⟩ := fun i' hi' j => by
    by_cases e : i' = i
    · subst e
      rw [set_cell_at hv]
      by_cases e2 : j = f
      · rw [if_pos e2, if_pos ⟨rfl, e2⟩]
      · rw [if_neg e2, if_neg (fun h => e2 h.2)]
    · rw [if_neg (fun h => e h.1)]
      exact World.cell?_of_block (Below.heap_setCell _ _ _ _ (fun e2 => e (h.inj i' i hi' hi e2)))
  have hp : ∀ (g : Nat → Option Nat) (f' : Nat), (∀ i', i' < k → w.cell? ⟨nb i', f', none⟩ = some (pv nb (g i'))) → ∀ i', i' < k → (w.setCell ⟨nb i, f, none⟩ (pv nb o)).cell? ⟨nb i', f', none⟩ = some (pv nb ((if f = f' then upd g i o else g) i')) := fun g f' hg i' hi' => by
    rw [hc i' hi' f']
    by_cases e : f = f'
    · subst e
      rw [if_pos rfl]
      by_cases e2 : i' = i
      · subst e2; rw [if_pos ⟨rfl, rfl⟩, upd_same]
      · rw [if_neg (fun h => e2 h.1), upd_other e2]; exact hg i' hi'
    · rw [if_neg e, if_neg (fun h => e h.2.symm)]; exact hg i' hi'
  exact ⟨h.lo, fun i hi => by simpa [World.setCell] using h.lt i hi, h.inj, fun i' hi' j hj => by rw [hc i' hi' j, if_neg (fun h => by omega)]; exact h.box i' hi' j hj,
    fun i' hi' => by rw [hc i' hi' 9, if_neg (fun h => by omega)]; exact h.num i' hi',
    hp ar 10 h.ar, hp fi 11 h.fi, hp la 12 h.la, hp ne 13 h.ne, fun i' hi' j hj => set_frozen (h.fr i' hi' j hj)⟩
theorem Nds.set_ar (h : Nds lo w nb zs k ar fi la ne) (hi : i < k) (o : Option Nat) : Nds lo (w.setCell ⟨nb i, 10, none⟩ (pv nb o)) nb zs k (upd ar i o) fi la ne := h.turn hi 10 (by omega) (by omega) o
theorem Nds.set_fi (h : Nds lo w nb zs k ar fi la ne) (hi : i < k) (o : Option Nat) : Nds lo (w.setCell ⟨nb i, 11, none⟩ (pv nb o)) nb zs k ar (upd fi i o) la ne := h.turn hi 11 (by omega) (by omega) o
theorem Nds.set_la (h : Nds lo w nb zs k ar fi la ne) (hi : i < k) (o : Option Nat) : Nds lo (w.setCell ⟨nb i, 12, none⟩ (pv nb o)) nb zs k ar fi (upd la i o) ne := h.turn hi 12 (by omega) (by omega) o
theorem Nds.set_ne (h : Nds lo w nb zs k ar fi la ne) (hi : i < k) (o : Option Nat) : Nds lo (w.setCell ⟨nb i, 13, none⟩ (pv nb o)) nb zs k ar fi la (upd ne i o) := h.turn hi 13 (by omega) (by omega) o
/-- The block of one node more. -/
def nbx (nb : Nat → Nat) (k g : Nat) : Nat → Nat := fun j => if j = k then g else nb j
theorem nbx_new (nb : Nat → Nat) (k g : Nat) : nbx nb k g k = g := if_pos rfl
theorem nbx_old {nb : Nat → Nat} {k g j : Nat} (h : j ≠ k) : nbx nb k g j = nb j := if_neg h
theorem pv_nbx {nb : Nat → Nat} {k g : Nat} {o : Option Nat} (h : ∀ j, o = some j → j < k) : pv (nbx nb k g) o = pv nb o := by
  cases o with
  | none => rfl
  | some j => have := h j rfl; simp only [pv]; rw [nbx_old (by omega)]
/-- A new node, with no pointers. -/
theorem Nds.grow (h : Nds lo w nb zs k ar fi la ne) (hr : Rng k ar fi la ne) (hN : New w w') (g : Nat) (hg : w.heap.size ≤ g) (hlo : lo ≤ g) (hlt : g < w'.heap.size)
    (hb : ∀ j, j < 9 → w'.cell? ⟨g, j, none⟩ = some (.int .i64 (zs.getD (k * 9 + j) 0))) (hn : w'.cell? ⟨g, 9, none⟩ = some (.int .i64 (k : Int)))
    (hp : ∀ j, 10 ≤ j → j < 14 → w'.cell? ⟨g, j, none⟩ = some (.pointer none)) (hf : ∀ j, j < 14 → w'.frozen? ⟨g, j, none⟩ = false) :
    Nds lo w' (nbx nb k g) zs (k + 1) (upd ar k none) (upd fi k none) (upd la k none) (upd ne k none) := by
  have h' := h.new hN
  have hs : ∀ i, i < k + 1 → (i < k ∧ nbx nb k g i = nb i) ∨ (i = k ∧ nbx nb k g i = g) := fun i hi => by
    by_cases e : i = k
    · exact .inr ⟨e, by rw [e, nbx_new]⟩
    · exact .inl ⟨by omega, nbx_old e⟩
  have hptr : ∀ (q : Nat → Option Nat) (f : Nat), 10 ≤ f → f < 14 → (∀ i j, i < k → q i = some j → j < k) → (∀ i, i < k → w'.cell? ⟨nb i, f, none⟩ = some (pv nb (q i))) → ∀ i, i < k + 1 → w'.cell? ⟨nbx nb k g i, f, none⟩ = some (pv (nbx nb k g) (upd q k none i)) := fun q f hf1 hf2 hq hc i hi => by
    rcases hs i hi with ⟨h1, e⟩ | ⟨h1, e⟩
    · rw [e, upd_other (by omega), pv_nbx (fun j hj => hq i j h1 hj)]; exact hc i h1
    · rw [e, h1, upd_same]; exact hp f hf1 hf2
  refine ⟨fun i hi => ?_, fun i hi => ?_, fun i j hi hj e => ?_, fun i hi j hj => ?_, fun i hi => ?_, hptr ar 10 (by omega) (by omega) hr.ar h'.ar, hptr fi 11 (by omega) (by omega) hr.fi h'.fi, hptr la 12 (by omega) (by omega) hr.la h'.la, hptr ne 13 (by omega) (by omega) hr.ne h'.ne, fun i hi j hj => ?_⟩
  · rcases hs i hi with ⟨h1, e⟩ | ⟨h1, e⟩
    · rw [e]; exact h.lo i h1
    · rw [e]; exact hlo
  · rcases hs i hi with ⟨h1, e⟩ | ⟨h1, e⟩
    · rw [e]; exact h'.lt i h1
    · rw [e]; exact hlt
  · rcases hs i hi with ⟨h1, e1⟩ | ⟨h1, e1⟩ <;> rcases hs j hj with ⟨h2, e2⟩ | ⟨h2, e2⟩
    · rw [e1, e2] at e; exact h.inj i j h1 h2 e
    · rw [e1, e2] at e; have := h.lt i h1; omega
    · rw [e1, e2] at e; have := h.lt j h2; omega
    · omega
  · rcases hs i hi with ⟨h1, e⟩ | ⟨h1, e⟩
    · rw [e]; exact h'.box i h1 j hj
    · rw [e, h1]; exact hb j hj
  · rcases hs i hi with ⟨h1, e⟩ | ⟨h1, e⟩
    · rw [e]; exact h'.num i h1
    · rw [e, h1]; exact hn
  · rcases hs i hi with ⟨h1, e⟩ | ⟨h1, e⟩
    · rw [e]; exact h'.fr i h1 j hj
    · rw [e]; exact hf j hj
theorem Nds.nil (lo : Nat) (w : World) (nb : Nat → Nat) (zs : List Int) (ar fi la ne : Nat → Option Nat) : Nds lo w nb zs 0 ar fi la ne :=
  ⟨fun i h => absurd h (by omega), fun i h => absurd h (by omega), fun i j h => absurd h (by omega), fun i h => absurd h (by omega), fun i h => absurd h (by omega), fun i h => absurd h (by omega), fun i h => absurd h (by omega), fun i h => absurd h (by omega), fun i h => absurd h (by omega), fun i h => absurd h (by omega)⟩
/-- The number of the node behind a pointer, one more; 0 for nil. -/
def numOf (w : World) (v : Value) : Nat := match v with
  | .pointer (some a) => (intOf (cv w ⟨a.block, 9, none⟩)).toNat + 1
  | _ => 0
theorem cv_cell {w : World} {a : Addr} {v : Value} (h : w.cell? a = some v) : cv w a = v := by unfold cv; rw [h]; rfl
theorem Nds.numOf_some (h : Nds lo w nb zs k ar fi la ne) (hi : i < k) : numOf w (.pointer (some ⟨nb i, 0, none⟩)) = i + 1 := by
  show (intOf (cv w ⟨nb i, 9, none⟩)).toNat + 1 = i + 1
  rw [cv_cell (h.num i hi)]
  simp [intOf]
/-- How far a pointer is from the end of the numbers up to k. -/
def upOf (k : Nat) (w : World) (v : Value) : Nat := if numOf w v = 0 then 0 else k + 1 - numOf w v
theorem upOf_nil (k : Nat) (w : World) : upOf k w (.pointer none) = 0 := rfl
theorem Nds.upOf_some (h : Nds lo w nb zs k ar fi la ne) (hi : i < k) : upOf k w (.pointer (some ⟨nb i, 0, none⟩)) = k - i := by
  unfold upOf
  rw [h.numOf_some hi]
  simp
theorem numOf_nil (w : World) : numOf w (.pointer none) = 0 := rfl
end
end Go.Proofs.YtffggmjhaaehlaaGreatDoor
