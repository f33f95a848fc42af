/- Parts that belong together: TreeN, TreeW, TreeX, TreeL. Conditions: as each part says. -/
import Derived.Test.YtobnjagmakhgpaaZB
import Derived.Test.YtobnjagmakhgpaaZC
/- The nodes of a tree in the memory: each in a block of its own, with pointers to others; what a store and a new node leave. No condition. -/
namespace Go.Proofs.Ytobnjagmakhgpaa
open Go.RowKit

/-- A pointer to a node, or nil. -/
def pv (nb : Nat → Nat) : Option Nat → Value
  | none => .pointer none
  | some j => .pointer (some ⟨nb j, 0, none⟩)
theorem pv_none (nb : Nat → Nat) : pv nb none = .pointer none := rfl
theorem pv_some (nb : Nat → Nat) (j : Nat) : pv nb (some j) = .pointer (some ⟨nb j, 0, none⟩) := rfl
/-- The first k boxes lie as nodes in the blocks nb, with these pointers. -/
structure Nds (lo : Nat) (w : World) (nb : Nat → Nat) (zs : List Int) (k : Nat) (ar fi la ne : Nat → Option Nat) : Prop where
  lo : ∀ i, i < k → lo ≤ nb i
  lt : ∀ i, i < k → nb i < w.heap.size
  inj : ∀ i j, i < k → j < k → nb i = nb j → i = j
  box : ∀ i, i < k → ∀ j, j < 9 → w.cell? ⟨nb i, j, none⟩ = some (.int .i64 (zs.getD (i * 9 + j) 0))
  num : ∀ i, i < k → w.cell? ⟨nb i, 9, none⟩ = some (.int .i64 (i : Int))
  ar : ∀ i, i < k → w.cell? ⟨nb i, 10, none⟩ = some (pv nb (ar i))
  fi : ∀ i, i < k → w.cell? ⟨nb i, 11, none⟩ = some (pv nb (fi i))
  la : ∀ i, i < k → w.cell? ⟨nb i, 12, none⟩ = some (pv nb (la i))
  ne : ∀ i, i < k → w.cell? ⟨nb i, 13, none⟩ = some (pv nb (ne i))
  fr : ∀ i, i < k → ∀ j, j < 14 → w.frozen? ⟨nb i, j, none⟩ = false
/-- All pointers of the first k nodes lead to some of them. -/
structure Rng (k : Nat) (ar fi la ne : Nat → Option Nat) : Prop where
  ar : ∀ i j, i < k → ar i = some j → j < k
  fi : ∀ i j, i < k → fi i = some j → j < k
  la : ∀ i j, i < k → la i = some j → j < k
  ne : ∀ i j, i < k → ne i = some j → j < k
/-- The boxes around, as pointers tell them. -/
def Arnd (zs : List Int) (k : Nat) (ar : Nat → Option Nat) : Prop := ∀ i, i < k → ar i = if i = 0 then none else some (par zs i).toNat
section
variable {lo : Nat} {w w' : World} {nb : Nat → Nat} {zs : List Int} {k i j : Nat} {ar fi la ne : Nat → Option Nat} {o : Option Nat}
theorem Nds.new (h : Nds lo w nb zs k ar fi la ne) (hN : New w w') : Nds lo w' nb zs k ar fi la ne :=
  ⟨h.lo, fun i hi => Nat.lt_of_lt_of_le (h.lt i hi) hN.le, h.inj, fun i hi j hj => (hN.cells _ _ (h.lt i hi)).trans (h.box i hi j hj), fun i hi => (hN.cells _ _ (h.lt i hi)).trans (h.num i hi),
    fun i hi => (hN.cells _ _ (h.lt i hi)).trans (h.ar i hi), fun i hi => (hN.cells _ _ (h.lt i hi)).trans (h.fi i hi), fun i hi => (hN.cells _ _ (h.lt i hi)).trans (h.la i hi), fun i hi => (hN.cells _ _ (h.lt i hi)).trans (h.ne i hi),
    fun i hi j hj => (hN.marks _ _ (h.lt i hi)).trans (h.fr i hi j hj)⟩
/-- A store elsewhere. -/
theorem Nds.far (h : Nds lo w nb zs k ar fi la ne) {p : Addr} (hp : ∀ i, i < k → p.block ≠ nb i) (u : Value) : Nds lo (w.setCell p u) nb zs k ar fi la ne := by
  have hc : ∀ i, i < k → ∀ j, (w.setCell p u).cell? ⟨nb i, j, none⟩ = w.cell? ⟨nb i, j, none⟩ := fun i hi j => World.cell?_of_block (Below.heap_setCell _ _ _ _ (fun e => hp i hi e.symm))
  exact ⟨h.lo, fun i hi => by simpa [World.setCell] using h.lt i hi, h.inj, fun i hi j hj => (hc i hi j).trans (h.box i hi j hj), fun i hi => (hc i hi 9).trans (h.num i hi),
    fun i hi => (hc i hi 10).trans (h.ar i hi), fun i hi => (hc i hi 11).trans (h.fi i hi), fun i hi => (hc i hi 12).trans (h.la i hi), fun i hi => (hc i hi 13).trans (h.ne i hi),
    fun i hi j hj => (World.frozen?_of_block (w := w) (Below.heap_setCell _ _ _ _ (fun e => hp i hi e.symm))).trans (h.fr i hi j hj)⟩
theorem set_cell_at {w : World} {b f j : Nat} {v u : Value} (h : w.cell? ⟨b, f, none⟩ = some v) : (w.setCell ⟨b, f, none⟩ u).cell? ⟨b, j, none⟩ = if j = f then some u else w.cell? ⟨b, j, none⟩ := by
  by_cases e : j = f
  · subst e; rw [if_pos rfl]; simp [go_sem, h]
  · rw [if_neg e, World.cell?_setCell_other _ _ _ _ (by simp; first | done | omega)]
theorem set_frozen {w : World} {p q : Addr} {u : Value} (h : w.frozen? q = false) : (w.setCell p u).frozen? q = false := by simpa [go_sem] using h
/-- A pointer of node i is turned: the general step. -/
theorem Nds.turn (h : Nds lo w nb zs k ar fi la ne) (hi : i < k) (f : Nat) (hf : 10 ≤ f) (hf2 : f < 14) (o : Option Nat) :
    Nds lo (w.setCell ⟨nb i, f, none⟩ (pv nb o)) nb zs k (if f = 10 then upd ar i o else ar) (if f = 11 then upd fi i o else fi) (if f = 12 then upd la i o else la) (if f = 13 then upd ne i o else ne) := by
  have hcell : ∃ v, w.cell? ⟨nb i, f, none⟩ = some v := by
    rcases (by omega : f = 10 ∨ f = 11 ∨ f = 12 ∨ f = 13) with e | e | e | e
    · exact ⟨_, e ▸ h.ar i hi⟩
    · exact ⟨_, e ▸ h.fi i hi⟩
    · exact ⟨_, e ▸ h.la i hi⟩
    · exact ⟨_, e ▸ h.ne i hi⟩
  obtain ⟨v, hv⟩ := hcell
  have hc : ∀ i', i' < k → ∀ j, (w.setCell ⟨nb i, f, none⟩ (pv nb o)).cell? ⟨nb i', j, none⟩ = if i' = i ∧ j = f then some (pv nb o) else w.cell? ⟨nb i', j, none⟩ := fun i' hi' j => by
    by_cases e : i' = i
    · subst e
      rw [set_cell_at hv]
      by_cases e2 : j = f
      · rw [if_pos e2, if_pos ⟨rfl, e2⟩]
      · rw [if_neg e2, if_neg (fun h => e2 h.2)]
    · rw [if_neg (fun h => e h.1)]
      exact World.cell?_of_block (Below.heap_setCell _ _ _ _ (fun e2 => e (h.inj i' i hi' hi e2)))
  have hp : ∀ (g : Nat → Option Nat) (f' : Nat), (∀ i', i' < k → w.cell? ⟨nb i', f', none⟩ = some (pv nb (g i'))) → ∀ i', i' < k → (w.setCell ⟨nb i, f, none⟩ (pv nb o)).cell? ⟨nb i', f', none⟩ = some (pv nb ((if f = f' then upd g i o else g) i')) := fun g f' hg i' hi' => by
    rw [hc i' hi' f']
    by_cases e : f = f'
    · subst e
      rw [if_pos rfl]
      by_cases e2 : i' = i
      · subst e2; rw [if_pos ⟨rfl, rfl⟩, upd_same]
      · rw [if_neg (fun h => e2 h.1), upd_other e2]; exact hg i' hi'
    · rw [if_neg e, if_neg (fun h => e h.2.symm)]; exact hg i' hi'
  exact ⟨h.lo, fun i hi => by simpa [World.setCell] using h.lt i hi, h.inj, fun i' hi' j hj => by rw [hc i' hi' j, if_neg (fun h => by omega)]; exact h.box i' hi' j hj,
    fun i' hi' => by rw [hc i' hi' 9, if_neg (fun h => by omega)]; exact h.num i' hi',
    hp ar 10 h.ar, hp fi 11 h.fi, hp la 12 h.la, hp ne 13 h.ne, fun i' hi' j hj => set_frozen (h.fr i' hi' j hj)⟩
theorem Nds.set_ar (h : Nds lo w nb zs k ar fi la ne) (hi : i < k) (o : Option Nat) : Nds lo (w.setCell ⟨nb i, 10, none⟩ (pv nb o)) nb zs k (upd ar i o) fi la ne := h.turn hi 10 (by omega) (by omega) o
theorem Nds.set_fi (h : Nds lo w nb zs k ar fi la ne) (hi : i < k) (o : Option Nat) : Nds lo (w.setCell ⟨nb i, 11, none⟩ (pv nb o)) nb zs k ar (upd fi i o) la ne := h.turn hi 11 (by omega) (by omega) o
theorem Nds.set_la (h : Nds lo w nb zs k ar fi la ne) (hi : i < k) (o : Option Nat) : Nds lo (w.setCell ⟨nb i, 12, none⟩ (pv nb o)) nb zs k ar fi (upd la i o) ne := h.turn hi 12 (by omega) (by omega) o
theorem Nds.set_ne (h : Nds lo w nb zs k ar fi la ne) (hi : i < k) (o : Option Nat) : Nds lo (w.setCell ⟨nb i, 13, none⟩ (pv nb o)) nb zs k ar fi la (upd ne i o) := h.turn hi 13 (by omega) (by omega) o
/-- The block of one node more. -/
def nbx (nb : Nat → Nat) (k g : Nat) : Nat → Nat := fun j => if j = k then g else nb j
theorem nbx_new (nb : Nat → Nat) (k g : Nat) : nbx nb k g k = g := if_pos rfl
theorem nbx_old {nb : Nat → Nat} {k g j : Nat} (h : j ≠ k) : nbx nb k g j = nb j := if_neg h
theorem pv_nbx {nb : Nat → Nat} {k g : Nat} {o : Option Nat} (h : ∀ j, o = some j → j < k) : pv (nbx nb k g) o = pv nb o := by
  cases o with
  | none => rfl
  | some j => have := h j rfl; simp only [pv]; rw [nbx_old (by omega)]
/-- A new node, with no pointers. -/
theorem Nds.grow (h : Nds lo w nb zs k ar fi la ne) (hr : Rng k ar fi la ne) (hN : New w w') (g : Nat) (hg : w.heap.size ≤ g) (hlo : lo ≤ g) (hlt : g < w'.heap.size)
    (hb : ∀ j, j < 9 → w'.cell? ⟨g, j, none⟩ = some (.int .i64 (zs.getD (k * 9 + j) 0))) (hn : w'.cell? ⟨g, 9, none⟩ = some (.int .i64 (k : Int)))
    (hp : ∀ j, 10 ≤ j → j < 14 → w'.cell? ⟨g, j, none⟩ = some (.pointer none)) (hf : ∀ j, j < 14 → w'.frozen? ⟨g, j, none⟩ = false) :
    Nds lo w' (nbx nb k g) zs (k + 1) (upd ar k none) (upd fi k none) (upd la k none) (upd ne k none) := by
  have h' := h.new hN
  have hs : ∀ i, i < k + 1 → (i < k ∧ nbx nb k g i = nb i) ∨ (i = k ∧ nbx nb k g i = g) := fun i hi => by
    by_cases e : i = k
    · exact .inr ⟨e, by rw [e, nbx_new]⟩
    · exact .inl ⟨by omega, nbx_old e⟩
  have hptr : ∀ (q : Nat → Option Nat) (f : Nat), 10 ≤ f → f < 14 → (∀ i j, i < k → q i = some j → j < k) → (∀ i, i < k → w'.cell? ⟨nb i, f, none⟩ = some (pv nb (q i))) → ∀ i, i < k + 1 → w'.cell? ⟨nbx nb k g i, f, none⟩ = some (pv (nbx nb k g) (upd q k none i)) := fun q f hf1 hf2 hq hc i hi => by
    rcases hs i hi with ⟨h1, e⟩ | ⟨h1, e⟩
    · rw [e, upd_other (by omega), pv_nbx (fun j hj => hq i j h1 hj)]; exact hc i h1
    · rw [e, h1, upd_same]; exact hp f hf1 hf2
  refine ⟨fun i hi => ?_, fun i hi => ?_, fun i j hi hj e => ?_, fun i hi j hj => ?_, fun i hi => ?_, hptr ar 10 (by omega) (by omega) hr.ar h'.ar, hptr fi 11 (by omega) (by omega) hr.fi h'.fi, hptr la 12 (by omega) (by omega) hr.la h'.la, hptr ne 13 (by omega) (by omega) hr.ne h'.ne, fun i hi j hj => ?_⟩
  · rcases hs i hi with ⟨h1, e⟩ | ⟨h1, e⟩
    · rw [e]; exact h.lo i h1
    · rw [e]; exact hlo
  · rcases hs i hi with ⟨h1, e⟩ | ⟨h1, e⟩
    · rw [e]; exact h'.lt i h1
    · rw [e]; exact hlt
  · rcases hs i hi with ⟨h1, e1⟩ | ⟨h1, e1⟩ <;> rcases hs j hj with ⟨h2, e2⟩ | ⟨h2, e2⟩
    · rw [e1, e2] at e; exact h.inj i j h1 h2 e
    · rw [e1, e2] at e; have := h.lt i h1; omega
    · rw [e1, e2] at e; have := h.lt j h2; omega
    · omega
  · rcases hs i hi with ⟨h1, e⟩ | ⟨h1, e⟩
    · rw [e]; exact h'.box i h1 j hj
    · rw [e, h1]; exact hb j hj
  · rcases hs i hi with ⟨h1, e⟩ | ⟨h1, e⟩
    · rw [e]; exact h'.num i h1
    · rw [e, h1]; exact hn
  · rcases hs i hi with ⟨h1, e⟩ | ⟨h1, e⟩
    · rw [e]; exact h'.fr i h1 j hj
    · rw [e]; exact hf j hj
theorem Nds.nil (lo : Nat) (w : World) (nb : Nat → Nat) (zs : List Int) (ar fi la ne : Nat → Option Nat) : Nds lo w nb zs 0 ar fi la ne :=
  ⟨fun i h => absurd h (by omega), fun i h => absurd h (by omega), fun i j h => absurd h (by omega), fun i h => absurd h (by omega), fun i h => absurd h (by omega), fun i h => absurd h (by omega), fun i h => absurd h (by omega), fun i h => absurd h (by omega), fun i h => absurd h (by omega), fun i h => absurd h (by omega)⟩
/-- The number of the node behind a pointer, one more; 0 for nil. -/
def numOf (w : World) (v : Value) : Nat := match v with
  | .pointer (some a) => (intOf (cv w ⟨a.block, 9, none⟩)).toNat + 1
  | _ => 0
theorem cv_cell {w : World} {a : Addr} {v : Value} (h : w.cell? a = some v) : cv w a = v := by unfold cv; rw [h]; rfl
theorem Nds.numOf_some (h : Nds lo w nb zs k ar fi la ne) (hi : i < k) : numOf w (.pointer (some ⟨nb i, 0, none⟩)) = i + 1 := by
  show (intOf (cv w ⟨nb i, 9, none⟩)).toNat + 1 = i + 1
  rw [cv_cell (h.num i hi)]
  simp [intOf]
/-- How far a pointer is from the end of the numbers up to k. -/
def upOf (k : Nat) (w : World) (v : Value) : Nat := if numOf w v = 0 then 0 else k + 1 - numOf w v
theorem upOf_nil (k : Nat) (w : World) : upOf k w (.pointer none) = 0 := rfl
theorem Nds.upOf_some (h : Nds lo w nb zs k ar fi la ne) (hi : i < k) : upOf k w (.pointer (some ⟨nb i, 0, none⟩)) = k - i := by
  unfold upOf
  rw [h.numOf_some hi]
  simp
theorem numOf_nil (w : World) : numOf w (.pointer none) = 0 := rfl
end
end Go.Proofs.Ytobnjagmakhgpaa

/- The methods of a node that only read, walked: depth, outTo, kids, hasRoom. Conditions: the nodes are linked. -/
namespace Go.Proofs.Ytobnjagmakhgpaa
open Go.RowKit

/-- The nodes of a linked tree. -/
structure Lnk (lo : Nat) (w : World) (nb : Nat → Nat) (zs : List Int) (k : Nat) (ar fi la ne : Nat → Option Nat) : Prop where
  nd : Nds lo w nb zs k ar fi la ne
  rg : Rng k ar fi la ne
  ar : Arnd zs k ar
  sh : Shape zs k fi la ne
  lk : Link zs k
  kb : k ≤ 1000
theorem dep_le (zs : List Int) (i : Nat) : dep zs i ≤ i := by
  induction i using Nat.strongRecOn with
  | ind i ih =>
    rcases par_cases zs i with ⟨p, e, hp⟩ | h
    · rw [dep_par e hp]; have := ih p hp; omega
    · rw [dep, dif_neg h]; omega
def depO (zs : List Int) : Option Nat → Nat
  | none => 0
  | some j => dep zs j + 1
/-- The box with a number that is around a box, or is it. -/
def outO (zs : List Int) (t : Int) : Option Nat → Option Nat
  | none => none
  | some i => if 0 ≤ t ∧ anc zs t.toNat i = true then some t.toNat else none
section
variable {lo : Nat} {w w' : World} {nb : Nat → Nat} {zs : List Int} {k i j : Nat} {ar fi la ne : Nat → Option Nat}
theorem Lnk.new (h : Lnk lo w nb zs k ar fi la ne) (hN : New w w') : Lnk lo w' nb zs k ar fi la ne := ⟨h.nd.new hN, h.rg, h.ar, h.sh, h.lk, h.kb⟩
theorem Lnk.dep_step (h : Lnk lo w nb zs k ar fi la ne) (hi : i < k) : dep zs i = depO zs (ar i) := by
  rw [h.ar i hi]
  rcases Nat.eq_zero_or_pos i with h0 | h0
  · subst h0
    rw [if_pos rfl]
    exact dep_top (by have := h.lk.root (by omega); omega)
  · obtain ⟨p, e, hp, _⟩ := h.lk.up i h0 hi
    rw [if_neg (by omega), dep_par e hp, e]
    simp [depO]
theorem Lnk.out_step (h : Lnk lo w nb zs k ar fi la ne) (hi : i < k) {t : Int} (ht : (i : Int) ≠ t) : outO zs t (some i) = outO zs t (ar i) := by
  rw [h.ar i hi]
  rcases Nat.eq_zero_or_pos i with h0 | h0
  · subst h0
    rw [if_pos rfl]
    unfold outO
    refine if_neg fun hh => ?_
    have hr := h.lk.root (by omega)
    rw [anc_top (by omega) (by omega)] at hh
    exact absurd hh.2 (by decide)
  · obtain ⟨p, e, hp, _⟩ := h.lk.up i h0 hi
    rw [if_neg (by omega), e]
    simp only [outO, Int.toNat_natCast]
    by_cases h1 : 0 ≤ t
    · rw [anc_par (a := t.toNat) e hp (by omega)]
    · rw [if_neg (fun hh => h1 hh.1), if_neg (fun hh => h1 hh.1)]
end
set_option maxHeartbeats 1000000 in
theorem depth_any (lo : Nat) (nb : Nat → Nat) (zs : List Int) (k i : Nat) (ar fi la ne : Nat → Option Nat) (hi : i < k) (w : World) (h : Lnk lo w nb zs k ar fi la ne) :
    Calls Try.prog 94 #[.pointer (some ⟨nb i, 0, none⟩)] w fun e w' => e = .returned (.int .i64 (dep zs i : Int)) ∧ w = w' := by
  have HL := Lib.hid h
  have g0 := h.nd.ar i hi
  have hd := h.dep_step hi
  have db := dep_le zs i
  have kb := h.kb
  have RG := Lib.hid (fun j hj => h.rg.ar i j hi hj)
  clear h
  go_enter Try.func94, Try.ntmps94
  go_wp2
  go_loopw [3, 4] (fun d p wr => wr = w ∧ ∃ (x : Nat) (o : Option Nat), d = .int .i64 (x : Int) ∧ p = pv nb o ∧ Hid (∀ j, o = some j → j < k) ∧ x + depO zs o = dep zs i) (fun _ p wr => numOf wr p)
  case atStart => exact ⟨rfl, 0, ar i, rfl, rfl, RG, by omega⟩
  case round =>
    obtain ⟨rfl, x, o, rfl, rfl, ro, hx⟩ := hrel
    cases o with
    | none =>
      simp only [pv_none]
      simp only [depO] at hx
      obtain rfl : x = dep zs i := by omega
      go_wp2
      go_ret
      exact ⟨rfl, rfl⟩
    | some j =>
      have hj := ro.out j rfl
      have g1 := HL.out.nd.ar j hj
      have nj := HL.out.nd.numOf_some hj
      have e1 := HL.out.dep_step hj
      have d1 := dep_le zs j
      have R1 := Lib.hid (fun j' hj' => HL.out.rg.ar j j' hj hj')
      have ns : numOf wr (pv nb (ar j)) < j + 1 := by
        rw [HL.out.ar j hj]
        rcases Nat.eq_zero_or_pos j with h0 | h0
        · subst h0; rw [if_pos rfl]; exact Nat.succ_pos _
        · obtain ⟨p, e, hp, _⟩ := HL.out.lk.up j h0 hj
          rw [if_neg (by omega), e]
          have := HL.out.nd.numOf_some (i := p) (by omega)
          simp only [pv_some, Int.toNat_natCast]
          omega
      simp only [depO] at hx
      simp only [pv_some]
      have x0 : (x : Int) ≤ 1000 := by omega
      have x1 : (0 : Int) ≤ (x : Int) := by omega
      go_wp2
      go_roundw
      case rel => exact ⟨trivial, x + 1, ar j, by go_num, rfl, R1, by omega⟩
      case measure => rw [nj]; exact ns
set_option maxHeartbeats 1000000 in
theorem outTo_any (lo : Nat) (nb : Nat → Nat) (zs : List Int) (k : Nat) (o : Option Nat) (t : Int) (ar fi la ne : Nat → Option Nat) (ho : ∀ j, o = some j → j < k) (w : World) (h : Lnk lo w nb zs k ar fi la ne) :
    Calls Try.prog 63 #[pv nb o, .int .i64 t] w fun e w' => e = .returned (pv nb (outO zs t o)) ∧ w = w' := by
  have HL := Lib.hid h
  have HO := Lib.hid ho
  clear h ho
  go_enter Try.func63, Try.ntmps63
  go_wp2
  go_loopw [0] (fun p wr => wr = w ∧ ∃ (o' : Option Nat), p = pv nb o' ∧ Hid (∀ j, o' = some j → j < k) ∧ outO zs t o' = outO zs t o) (fun p wr => numOf wr p)
  case atStart => exact ⟨rfl, o, rfl, HO, rfl⟩
  case round =>
    obtain ⟨rfl, o', rfl, ro, hx⟩ := hrel
    have HX := Lib.hid hx
    clear hx
    cases o' with
    | none =>
      simp only [pv_none]
      go_wp2
      go_ret
      exact ⟨by rw [← HX.out]; rfl, rfl⟩
    | some j =>
      have hj := ro.out j rfl
      have g1 := HL.out.nd.ar j hj
      have g2 := HL.out.nd.num j hj
      have nj := HL.out.nd.numOf_some hj
      have R1 := Lib.hid (fun j' hj' => HL.out.rg.ar j j' hj hj')
      have ns : numOf wr (pv nb (ar j)) < j + 1 := by
        rw [HL.out.ar j hj]
        rcases Nat.eq_zero_or_pos j with h0 | h0
        · subst h0; rw [if_pos rfl]; exact Nat.succ_pos _
        · obtain ⟨p, e, hp, _⟩ := HL.out.lk.up j h0 hj
          rw [if_neg (by omega), e]
          have := HL.out.nd.numOf_some (i := p) (by omega)
          simp only [pv_some, Int.toNat_natCast]
          omega
      by_cases ht : (j : Int) = t
      · have e1 : outO zs t (some j) = some j := by
          subst ht
          simp [outO, anc_self]
        have E1 := Lib.hid (HX.out.symm.trans e1)
        simp only [pv_some]
        have hb : ((j : Int) != t) = false := by simpa using ht
        clear ht e1
        go_wp2
        go_ret
        exact ⟨by rw [E1.out]; rfl, rfl⟩
      · have e1 := HL.out.out_step hj ht
        have hb : ((j : Int) != t) = true := by simpa using ht
        have E1 := Lib.hid (e1.symm.trans HX.out)
        simp only [pv_some]
        clear ht e1
        go_wp2
        go_roundw
        case rel => exact ⟨trivial, ar j, rfl, R1, E1.out⟩
        case measure => rw [nj]; exact ns
set_option maxHeartbeats 1000000 in
theorem kids_any (lo : Nat) (nb : Nat → Nat) (zs : List Int) (k i : Nat) (ar fi la ne : Nat → Option Nat) (hi : i < k) (w : World) (h : Lnk lo w nb zs k ar fi la ne) :
    Calls Try.prog 45 #[.pointer (some ⟨nb i, 0, none⟩)] w fun e w' => ∃ v, e = .returned v ∧ Own w.heap.size w' v ((kidL zs k i).map Int.ofNat) ∧ New w w' := by
  have HL := Lib.hid h
  have g0 := h.nd.fi i hi
  have kb := h.kb
  have hf := h.sh.fi i hi
  clear h
  rw [hf] at g0
  go_enter Try.func45, Try.ntmps45
  go_wp2
  go_loopw [3, 4] (fun v p wr => ∃ (done rest : List Nat), Hid (kidL zs k i = done ++ rest) ∧ p = pv nb rest.head? ∧ Hid (Own w.heap.size wr v (done.map Int.ofNat)) ∧ Hid (New w wr)) (fun _ p wr => upOf k wr p)
  case atStart => exact ⟨[], kidL zs k i, Lib.hid rfl, rfl, Lib.hid (Own.nil _ _), Lib.hid (New.refl _)⟩
  case round =>
    obtain ⟨done, rest, HK, rfl, HO, HN⟩ := hrel
    have dl : done.length ≤ k := by
      have h1 : (kidL zs k i).length ≤ k := by unfold kidL; have := List.length_filter_le (fun j => decide (par zs j = (i : Int))) (List.range k); simpa using this
      rw [HK.out, List.length_append] at h1
      omega
    cases rest with
    | nil =>
      simp only [List.head?_nil, pv_none]
      have HO2 := HO.out
      have e1 := HK.out
      rw [List.append_nil] at e1
      rw [← e1] at HO2
      replace HO2 := Lib.hid HO2
      clear HO HK e1
      obtain ⟨v, hv⟩ : ∃ v, v = u3 := ⟨_, rfl⟩
      rw [← hv] at HO2 ⊢
      clear hv
      go_wp2
      go_ret
      exact ⟨v, rfl, HO2.out, HN.out⟩
    | cons j rest =>
      have HN' := HL.out.nd.new HN.out
      have hjm := HL.out.lk.kid_in (j := j) (a := i) (by rw [HK.out]; simp)
      have g1 := HN'.ne j hjm.2.2
      have g2 := HN'.num j hjm.2.2
      have nj := HN'.upOf_some hjm.2.2
      have en_ := HL.out.sh.ne i done j rest hi HK.out
      rw [en_] at g1
      have hnx : ∀ r, rest.head? = some r → j < r ∧ r < k := fun r hr => by
        cases rest with
        | nil => cases hr
        | cons r' rest' =>
          obtain rfl : r' = r := by simpa using hr
          have hs := kid_sorted zs k i
          rw [HK.out] at hs
          obtain ⟨_, hs2, _⟩ := List.pairwise_append.1 hs
          exact ⟨(List.pairwise_cons.1 hs2).1 _ List.mem_cons_self, (HL.out.lk.kid_in (j := r') (a := i) (by rw [HK.out]; simp)).2.2⟩
      have NX := Lib.hid hnx
      have HND := Lib.hid HN'
      have HK2 : Hid (kidL zs k i = (done ++ [j]) ++ rest) := Lib.hid (by rw [HK.out]; simp)
      have hjk := hjm.2.2
      have sz := HN.out.le
      clear HN' hjm en_ hnx HK
      simp only [List.head?_cons, pv_some]
      have j0 : (0 : Int) ≤ (j : Int) := by omega
      have LD : Hid ((done.map Int.ofNat).length ≤ 1000) := Lib.hid (by simp; omega)
      go_wp2_with (at_builtin; refine wp_app rfl _ _ rfl w.heap.size _ _ rfl (HO.out.alloc _) (some ⟨wr.heap.size, 0, none⟩) 1 1 [(j : Int)] rfl (Ints.one wr _ _) (by have := LD.out; omega) (by simp; omega) ?_; intro v6 w6 O6 G6; (have N6 := Lib.hid (new_own (HN.out.alloc _) G6 (HO.out.alloc _) (Nat.le_refl _))); (have g3 : w6.cell? ⟨nb j, 13, none⟩ = some (pv nb rest.head?) := (((HL.out.nd.new N6.out).ne j hjk).trans (by rw [HL.out.sh.ne i done j rest hi (by rw [HK2.out]; simp)])));  (have O6 := Lib.hid O6); clear G6)
      go_wp2
      go_roundw
      case rel => exact ⟨done ++ [j], rest, HK2, rfl, Lib.hid (by rw [List.map_append]; exact O6.out), N6⟩
      case measure =>
        have n6 := (HL.out.nd.new N6.out)
        rw [nj]
        cases hh : rest.head? with
        | none => rw [pv_none, upOf_nil]; omega
        | some r =>
          have h1 := NX.out r hh
          rw [pv_some, n6.upOf_some h1.2]
          omega
end Go.Proofs.Ytobnjagmakhgpaa

/- Boxes, checked: Box.valid of the program, validBox of the reference; hasRoom and take of a node, walked. Conditions: the nodes are linked. -/
namespace Go.Proofs.Ytobnjagmakhgpaa
open Go.RowKit

/-- A box is right by itself: kind, width, height, pad, gap, grow, shrink, justify. -/
def okX (k wd ht pd gp gr sh ju : Int) : Bool := decide ((0 ≤ k ∧ k ≤ 3) ∧ (0 ≤ wd ∧ wd ≤ if k = 0 then 100 else 0) ∧ (0 ≤ ht ∧ ht ≤ if k = 0 then 100 else 0) ∧ (0 ≤ pd ∧ pd ≤ 50) ∧ (0 ≤ gp ∧ gp ≤ 50) ∧ (0 ≤ gr ∧ gr ≤ 10) ∧ (0 ≤ sh ∧ sh ≤ 10) ∧ (0 ≤ ju ∧ ju ≤ 3))
def boxB (zs : List Int) (i : Nat) : Bool := okX (zs.getD (i * 9 + 1) 0) (zs.getD (i * 9 + 2) 0) (zs.getD (i * 9 + 3) 0) (zs.getD (i * 9 + 4) 0) (zs.getD (i * 9 + 5) 0) (zs.getD (i * 9 + 6) 0) (zs.getD (i * 9 + 7) 0) (zs.getD (i * 9 + 8) 0)
theorem boxB_iff {zs : List Int} {i : Nat} : boxB zs i = true ↔ BoxP zs i := by
  unfold boxB okX BoxP knd
  rw [decide_eq_true_eq]
set_option maxHeartbeats 2000000 in
theorem boxValid_any (p k wd ht pd gp gr sh ju : Int) (w : World) :
    Calls Try.prog 71 #[.agg #[.int .i64 p, .int .i64 k, .int .i64 wd, .int .i64 ht, .int .i64 pd, .int .i64 gp, .int .i64 gr, .int .i64 sh, .int .i64 ju]] w fun e w' => e = .returned (.bool (okX k wd ht pd gp gr sh ju)) ∧ New w w' := by
  by_cases hk : k = 0
  · subst hk
    go_enter Try.func71, Try.ntmps71
    go_wp2_with (go_at_call 39; refine (within_any _ _ _ _).mono ?_; rintro e w' ⟨rfl, rfl⟩)
    all_goals (go_ret; exact ⟨ret_bool (by unfold okX; rw [Bool.eq_iff_iff]; simp at *; omega), by (repeat (first | exact New.refl _ | assumption | refine New.alloc ?_ _ | refine New.drew ?_ | refine New.drewN ?_ _ | refine New.setCell ?_ (by first | omega | (simp; omega) | (simp; done)) _ | refine New.trans ?_ (by assumption)))⟩)
  · have hb : (k == 0) = false := by simpa using hk
    go_enter Try.func71, Try.ntmps71
    go_wp2_with (go_at_call 39; refine (within_any _ _ _ _).mono ?_; rintro e w' ⟨rfl, rfl⟩)
    all_goals (go_ret; exact ⟨ret_bool (by unfold okX; rw [if_neg hk, Bool.eq_iff_iff]; simp at *; omega), by (repeat (first | exact New.refl _ | assumption | refine New.alloc ?_ _ | refine New.drew ?_ | refine New.drewN ?_ _ | refine New.setCell ?_ (by first | omega | (simp; omega) | (simp; done)) _ | refine New.trans ?_ (by assumption)))⟩)
set_option maxHeartbeats 2000000 in
theorem svalidBox_any (p k wd ht pd gp gr sh ju : Int) (w : World) :
    Calls Try.prog 76 #[.agg #[.int .i64 p, .int .i64 k, .int .i64 wd, .int .i64 ht, .int .i64 pd, .int .i64 gp, .int .i64 gr, .int .i64 sh, .int .i64 ju]] w fun e w' => e = .returned (.bool (okX k wd ht pd gp gr sh ju)) ∧ New w w' := by
  by_cases hk : k = 0
  · subst hk
    go_enter Try.func76, Try.ntmps76
    go_wp2_with (go_at_call 42; refine (inRange_any _ _ _ _).mono ?_; rintro e w' ⟨rfl, rfl⟩)
    all_goals (go_ret; exact ⟨ret_bool (by unfold okX; rw [Bool.eq_iff_iff]; simp at *; omega), by (repeat (first | exact New.refl _ | assumption | refine New.alloc ?_ _ | refine New.drew ?_ | refine New.drewN ?_ _ | refine New.setCell ?_ (by first | omega | (simp; omega) | (simp; done)) _ | refine New.trans ?_ (by assumption)))⟩)
  · have hb : (k == 0) = false := by simpa using hk
    go_enter Try.func76, Try.ntmps76
    go_wp2_with (go_at_call 42; refine (inRange_any _ _ _ _).mono ?_; rintro e w' ⟨rfl, rfl⟩)
    all_goals (go_ret; exact ⟨ret_bool (by unfold okX; rw [if_neg hk, Bool.eq_iff_iff]; simp at *; omega), by (repeat (first | exact New.refl _ | assumption | refine New.alloc ?_ _ | refine New.drew ?_ | refine New.drewN ?_ _ | refine New.setCell ?_ (by first | omega | (simp; omega) | (simp; done)) _ | refine New.trans ?_ (by assumption)))⟩)
/-- One box more may be directly in a box. -/
def roomB (zs : List Int) (k i : Nat) : Bool := decide (knd zs i ≠ 0 ∧ (kidL zs k i).length < 8 ∧ dep zs i < 5)
set_option maxHeartbeats 1000000 in
theorem hasRoom_any (lo : Nat) (nb : Nat → Nat) (zs : List Int) (k i : Nat) (ar fi la ne : Nat → Option Nat) (hi : i < k) (w : World) (h : Lnk lo w nb zs k ar fi la ne) :
    Calls Try.prog 72 #[.pointer (some ⟨nb i, 0, none⟩)] w fun e w' => e = .returned (.bool (roomB zs k i)) ∧ New w w' := by
  have HL := Lib.hid h
  have g1 := h.nd.box i hi 1 (by omega)
  clear h
  by_cases h1 : knd zs i = 0
  · have e : roomB zs k i = false := decide_eq_false (fun hh => hh.1 h1)
    rw [e]
    unfold knd at h1
    rw [h1] at g1
    go_enter Try.func72, Try.ntmps72
    go_wp2
    go_ret
    exact ⟨rfl, New.refl _⟩
  · have H1 := Lib.hid h1
    have hb : (zs.getD (i * 9 + 1) 0 != 0) = true := by simpa [knd] using h1
    generalize zs.getD (i * 9 + 1) 0 = y at g1 hb
    clear h1
    go_enter Try.func72, Try.ntmps72
    go_wp2_with fail
    refine (kids_any lo nb zs k i ar fi la ne hi _ HL.out).mono ?_
    rintro e w1 ⟨v, rfl, O1, N1⟩
    obtain ⟨A1, c1, rfl, _, _⟩ := O1.res
    rw [List.length_map]
    have HL1 := Lib.hid (HL.out.new N1)
    have N1h := Lib.hid N1
    have KB := Lib.hid (show (kidL zs k i).length ≤ k from by unfold kidL; have := List.length_filter_le (fun j => decide (par zs j = (i : Int))) (List.range k); simpa using this)
    clear O1 N1
    by_cases h2 : (kidL zs k i).length < 8
    · have hl : ((kidL zs k i).length : Int) < 8 := by omega
      have H2 := Lib.hid h2
      generalize hq : (kidL zs k i).length = q at hl ⊢
      clear h2 hq
      go_wp2_with fail
      refine (depth_any lo nb zs k i ar fi la ne hi _ HL1.out).mono ?_
      rintro e w' ⟨rfl, rfl⟩
      by_cases h3 : dep zs i < 5
      · have e : roomB zs k i = true := decide_eq_true ⟨H1.out, H2.out, h3⟩
        have E := Lib.hid e; clear e
        have h3' : ((dep zs i : Nat) : Int) < 5 := by omega
        generalize dep zs i = dd at *
        go_wp2
        go_ret
        exact ⟨by rw [E.out]; rfl, N1h.out⟩
      · have e : roomB zs k i = false := decide_eq_false (fun hh => h3 hh.2.2)
        have E := Lib.hid e; clear e
        have h3' : decide (((dep zs i : Nat) : Int) < 5) = false := decide_eq_false (by omega)
        generalize dep zs i = dd at *
        clear h3
        go_wp2
        go_ret
        exact ⟨by rw [E.out]; rfl, N1h.out⟩
    · have hl : decide (((kidL zs k i).length : Int) < 8) = false := decide_eq_false (by omega)
      have e : roomB zs k i = false := decide_eq_false (fun hh => h2 hh.2.1)
      have E := Lib.hid e; clear e
      generalize (kidL zs k i).length = q at hl ⊢
      clear h2 KB
      go_wp2
      go_ret
      exact ⟨by rw [E.out]; rfl, N1h.out⟩
end Go.Proofs.Ytobnjagmakhgpaa

/- take of a node, walked; the row of pointers to the nodes. Conditions: the nodes are linked. -/
namespace Go.Proofs.Ytobnjagmakhgpaa
open Go.RowKit

/-- What taking a box leaves: p takes k, behind its last one l. -/
def takeW (w : World) (nb : Nat → Nat) (p k : Nat) : Option Nat → World
  | none => ((w.setCell ⟨nb k, 10, none⟩ (pv nb (some p))).setCell ⟨nb p, 11, none⟩ (pv nb (some k))).setCell ⟨nb p, 12, none⟩ (pv nb (some k))
  | some l => ((w.setCell ⟨nb k, 10, none⟩ (pv nb (some p))).setCell ⟨nb l, 13, none⟩ (pv nb (some k))).setCell ⟨nb p, 12, none⟩ (pv nb (some k))
section
variable {lo : Nat} {w w' : World} {nb : Nat → Nat} {zs : List Int} {k p g n i : Nat} {ar fi la ne : Nat → Option Nat}
set_option maxHeartbeats 1000000 in
theorem take_any (h : Nds lo w nb zs n ar fi la ne) (hp : p < n) (hk : k < n) (hl : ∀ l, la p = some l → l < n) :
    Calls Try.prog 73 #[.pointer (some ⟨nb p, 0, none⟩), .pointer (some ⟨nb k, 0, none⟩)] w fun e w' => e = .returned (.tuple #[]) ∧ w' = takeW w nb p k (la p) := by
  have f1 := h.fr k hk 10 (by omega)
  have f2 := h.fr p hp 11 (by omega)
  have f3 := h.fr p hp 12 (by omega)
  have h1 := h.set_ar hk (some p)
  have g1 := h1.la p hp
  have g0 := h.ar k hk
  rw [pv_some] at g1
  cases e : la p with
  | none =>
    rw [e, pv_none] at g1
    have g2 := h1.fi p hp
    have g3 := (h1.set_fi hp (some k)).la p hp
    simp only [pv_some] at g2 g3
    clear h h1 hl
    go_enter Try.func73, Try.ntmps73
    go_wp2
    go_end0
    exact ⟨rfl, rfl⟩
  | some l =>
    have hl' := hl l e
    rw [e, pv_some] at g1
    have f4 := h.fr l hl' 13 (by omega)
    have g2 := h1.ne l hl'
    have g3 := (h1.set_ne hl' (some k)).la p hp
    simp only [pv_some] at g2 g3
    clear h h1 hl
    go_enter Try.func73, Try.ntmps73
    go_wp2
    go_end0
    exact ⟨rfl, rfl⟩
theorem takeW_far (hp : p < n) (hk : k < n) (hl : ∀ l, la p = some l → l < n) {b : Nat} (hb : ∀ i, i < n → nb i ≠ b) : (takeW w nb p k (la p)).heap[b]? = w.heap[b]? := by
  cases e : la p with
  | none =>
    show ((_ : World).setCell _ _).heap[b]? = _
    rw [Below.heap_setCell _ _ _ _ (by have := hb p hp; simp; omega), Below.heap_setCell _ _ _ _ (by have := hb p hp; simp; omega), Below.heap_setCell _ _ _ _ (by have := hb k hk; simp; omega)]
  | some l =>
    have hl' := hl l e
    show ((_ : World).setCell _ _).heap[b]? = _
    rw [Below.heap_setCell _ _ _ _ (by have := hb p hp; simp; omega), Below.heap_setCell _ _ _ _ (by have := hb l hl'; simp; omega), Below.heap_setCell _ _ _ _ (by have := hb k hk; simp; omega)]
theorem takeW_new {w0 : World} (h : New w0 w) (hd : Nds w0.heap.size w nb zs n ar fi la ne) (hp : p < n) (hk : k < n) (hl : ∀ l, la p = some l → l < n) : New w0 (takeW w nb p k (la p)) := by
  cases e : la p with
  | none => exact ((h.setCell (hd.lo k hk) _).setCell (hd.lo p hp) _).setCell (hd.lo p hp) _
  | some l => exact ((h.setCell (hd.lo k hk) _).setCell (hd.lo l (hl l e)) _).setCell (hd.lo p hp) _
theorem takeW_size (w : World) (nb : Nat → Nat) (p k : Nat) (o : Option Nat) : (takeW w nb p k o).heap.size = w.heap.size := by
  cases o <;> simp [takeW, World.setCell]
/-- Box k is taken: one box more is linked. -/
theorem Lnk.take (h : Lnk lo w nb zs k ar fi la ne) {w4 : World} {nb' : Nat → Nat} (hd : Nds lo w4 nb' zs (k + 1) (upd ar k none) (upd fi k none) (upd la k none) (upd ne k none))
    (hP : PlaceP zs k) (hpar : par zs k = (p : Int)) (hpk : p < k) (hkb : k + 1 ≤ 1000) (hlk : Link zs (k + 1)) :
    ∃ ar' fi' la' ne', Lnk lo (takeW w4 nb' p k (upd la k none p)) nb' zs (k + 1) ar' fi' la' ne' := by
  have lp : upd la k none p = la p := upd_other (by omega)
  have shU : Shape zs k (upd fi k none) (upd la k none) (upd ne k none) :=
    ⟨fun a ha => by rw [upd_other (by omega)]; exact h.sh.fi a ha, fun a ha => by rw [upd_other (by omega)]; exact h.sh.la a ha,
      fun a done j rest ha e => by
        have hj := (kid_mem.1 (show j ∈ kidL zs k a by rw [e]; simp)).1
        rw [upd_other (by omega)]; exact h.sh.ne a done j rest ha e⟩
  have arU : Arnd zs (k + 1) (upd (upd ar k none) k (some p)) := fun i hi => by
    by_cases e : i = k
    · subst e; rw [upd_same, if_neg (by omega), hpar]; simp
    · rw [upd_other e, upd_other e]; exact h.ar i (by omega)
  have rgB : ∀ (q : Nat → Option Nat), (∀ i j, i < k → q i = some j → j < k) → ∀ i j, i < k + 1 → upd q k none i = some j → j < k + 1 := fun q hq i j hi e => by
    by_cases e2 : i = k
    · subst e2; rw [upd_same] at e; cases e
    · rw [upd_other e2] at e; have := hq i j (by omega) e; omega
  have rgU : ∀ (q : Nat → Option Nat), (∀ i j, i < k + 1 → q i = some j → j < k + 1) → ∀ (x : Nat) (v : Nat), v < k + 1 → ∀ i j, i < k + 1 → upd q x (some v) i = some j → j < k + 1 := fun q hq x v hv i j hi e => by
    by_cases e2 : i = x
    · subst e2; rw [upd_same] at e; obtain rfl := Option.some.inj e; exact hv
    · rw [upd_other e2] at e; exact hq i j hi e
  have d1 := hd.set_ar (i := k) (by omega) (some p)
  cases e : upd la k none p with
  | none =>
    have d2 := d1.set_fi (i := p) (by omega) (some k)
    have d3 := d2.set_la (i := p) (by omega) (some k)
    exact ⟨_, _, _, _, d3, ⟨rgU _ (rgB ar h.rg.ar) k p (by omega), rgU _ (rgB fi h.rg.fi) p k (by omega), rgU _ (rgB la h.rg.la) p k (by omega), rgB ne h.rg.ne⟩, arU,
      shU.first h.lk hpar hpk e (upd_same _ _ _) (upd_same _ _ _) (upd_same _ _ _), hlk, hkb⟩
  | some l =>
    obtain ⟨s, hl⟩ := shU.next h.lk hpar hpk e (upd_same _ _ _) (upd_same _ _ _) (upd_same _ _ _)
    have d2 := d1.set_ne (i := l) (by omega) (some k)
    have d3 := d2.set_la (i := p) (by omega) (some k)
    exact ⟨_, _, _, _, d3, ⟨rgU _ (rgB ar h.rg.ar) k p (by omega), rgB fi h.rg.fi, rgU _ (rgB la h.rg.la) p k (by omega), rgU _ (rgB ne h.rg.ne) l k (by omega)⟩, arU, s, hlk, hkb⟩
/-- The first box is linked by itself. -/
theorem Lnk.first (h : Nds lo w nb zs 1 (upd ar 0 none) (upd fi 0 none) (upd la 0 none) (upd ne 0 none)) (hlk : Link zs 1) : Lnk lo w nb zs 1 (upd ar 0 none) (upd fi 0 none) (upd la 0 none) (upd ne 0 none) := by
  have hu : ∀ (q : Nat → Option Nat) i j, i < 1 → upd q 0 none i = some j → j < 1 := fun q i j hi e => by
    obtain rfl : i = 0 := by omega
    rw [upd_same] at e; cases e
  exact ⟨h, ⟨hu ar, hu fi, hu la, hu ne⟩, fun i hi => by
    obtain rfl : i = 0 := by omega
    rw [upd_same, if_pos rfl], Shape.root (hlk.root (by omega)) (upd_same _ _ _) (upd_same _ _ _), hlk, by omega⟩
/-- The row of pointers: the first k lead to the nodes, the others nowhere. -/
structure PRow (w : World) (g : Nat) (nb : Nat → Nat) (k n : Nat) : Prop where
  lt : g < w.heap.size
  c : ∀ i, i < k → w.cell? ⟨g, i, none⟩ = some (.pointer (some ⟨nb i, 0, none⟩))
  z : ∀ i, k ≤ i → i < n → w.cell? ⟨g, i, none⟩ = some (.pointer none)
  f : ∀ i, i < n → w.frozen? ⟨g, i, none⟩ = false
theorem PRow.new (h : PRow w g nb k n) (hN : New w w') : PRow w' g nb k n :=
  ⟨Nat.lt_of_lt_of_le h.lt hN.le, fun i hi => (hN.cells _ _ h.lt).trans (h.c i hi), fun i h1 h2 => (hN.cells _ _ h.lt).trans (h.z i h1 h2), fun i hi => (hN.marks _ _ h.lt).trans (h.f i hi)⟩
theorem PRow.block (h : PRow w g nb k n) (hs : w.heap.size ≤ w'.heap.size) (hN : w'.heap[g]? = w.heap[g]?) : PRow w' g nb k n :=
  ⟨Nat.lt_of_lt_of_le h.lt hs, fun i hi => (World.cell?_of_block hN).trans (h.c i hi), fun i h1 h2 => (World.cell?_of_block hN).trans (h.z i h1 h2), fun i hi => (World.frozen?_of_block (w := w) hN).trans (h.f i hi)⟩
theorem PRow.step (h : PRow w g nb k n) (hk : k < n) (gk : Nat) : PRow (w.setCell ⟨g, k, none⟩ (.pointer (some ⟨gk, 0, none⟩))) g (nbx nb k gk) (k + 1) n := by
  have hz := h.z k (Nat.le_refl _) hk
  refine ⟨by simpa [World.setCell] using h.lt, fun i hi => ?_, fun i h1 h2 => ?_, fun i hi => set_frozen (h.f i hi)⟩
  · rw [set_cell_at hz]
    by_cases e : i = k
    · rw [if_pos e, e, nbx_new]
    · rw [if_neg e, nbx_old e]; exact h.c i (by omega)
  · rw [set_cell_at hz, if_neg (by omega)]
    exact h.z i (by omega) h2
theorem PRow.made (w : World) (n : Nat) (t : TypeId) (nb : Nat → Nat) : PRow (w.alloc (.cells (madeCells #[.pointer none] n) t)) w.heap.size nb 0 n := by
  refine ⟨by simp, fun i hi => absurd hi (by omega), fun i _ hi => ?_, fun i hi => by simp [go_sem]⟩
  have e : (w.alloc (.cells (madeCells #[.pointer none] n) t)).cell? ⟨w.heap.size, i, none⟩ = (madeCells #[.pointer none] n)[i]? := World.cell?_alloc_new w _ t i
  rw [e]
  simp [madeCells, hi, Nat.mod_one]
end
end Go.Proofs.Ytobnjagmakhgpaa
