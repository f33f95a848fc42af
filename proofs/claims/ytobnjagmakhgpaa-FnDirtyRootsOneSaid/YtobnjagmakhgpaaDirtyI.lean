/- Marked boxes: the program's functions on them, walked. Condition: the tree and the marks can be read. -/
import Derived.Test.YtobnjagmakhgpaaTreeD
import Derived.Test.YtobnjagmakhgpaaZK
import Derived.Lib.SliceRun
namespace Go.Proofs.Ytobnjagmakhgpaa
open Go.RowKit

/-- A row of truth values. -/
structure BRow (w : World) (g : Nat) (f : Nat → Bool) (n : Nat) : Prop where
  lt : g < w.heap.size
  c : ∀ i, i < n → w.cell? ⟨g, i, none⟩ = some (.bool (f i))
  f : ∀ i, i < n → w.frozen? ⟨g, i, none⟩ = false
section
variable {lo g n k i j : Nat} {w w' : World} {f : Nat → Bool} {nb : Nat → Nat} {zs ms : List Int} {ar fi la ne : Nat → Option Nat}
theorem BRow.new (h : BRow w g f n) (k : New w w') : BRow w' g f n :=
  ⟨Nat.lt_of_lt_of_le h.lt k.le, fun i hi => (k.cells _ _ h.lt).trans (h.c i hi), fun i hi => (k.marks _ _ h.lt).trans (h.f i hi)⟩
theorem BRow.yes (h : BRow w g f n) (hk : k < n) : BRow (w.setCell ⟨g, k, none⟩ (.bool true)) g (fun i => decide (i = k) || f i) n :=
  ⟨by simpa [World.setCell] using h.lt, fun i hi => by
    rw [set_cell_at (h.c k hk)]
    by_cases e : i = k
    · rw [if_pos e, e]; simp
    · rw [if_neg e, h.c i hi]; simp [e], fun i hi => set_frozen (h.f i hi)⟩
theorem BRow.made (w : World) (n : Nat) (t : TypeId) : BRow (w.alloc (.cells (madeCells #[.bool false] n) t)) w.heap.size (Go.Proofs.Ytobnjagmakhgpaa.mk []) n := by
  refine ⟨by simp, fun i hi => ?_, fun i hi => by simp [go_sem]⟩
  have e : (w.alloc (.cells (madeCells #[.bool false] n) t)).cell? ⟨w.heap.size, i, none⟩ = (madeCells #[.bool false] n)[i]? := World.cell?_alloc_new w _ t i
  rw [e]
  simp [madeCells, hi, Nat.mod_one, Go.Proofs.Ytobnjagmakhgpaa.mk]
theorem mk_takeI (hk : k < ms.length) (i : Nat) : mk (ms.take (k + 1)) i = (decide ((i : Int) = ms.getD k 0) || mk (ms.take k) i) := by
  have e : ms.take (k + 1) = ms.take k ++ [ms.getD k 0] := by
    rw [List.take_add_one, List.getD_eq_getElem?_getD, List.getElem?_eq_getElem hk]; rfl
  rw [Bool.eq_iff_iff, Bool.or_eq_true, mk_iff, mk_iff, e, List.mem_append, List.mem_singleton, decide_eq_true_eq, or_comm]
theorem mk_take (hk : k < ms.length) (hz : ms.getD k 0 = (j : Int)) (i : Nat) : mk (ms.take (k + 1)) i = (decide (i = j) || mk (ms.take k) i) := by
  have e : ms.take (k + 1) = ms.take k ++ [ms.getD k 0] := by
    rw [List.take_add_one, List.getD_eq_getElem?_getD, List.getElem?_eq_getElem hk]; rfl
  rw [Bool.eq_iff_iff, Bool.or_eq_true, mk_iff, mk_iff, e, hz, List.mem_append, List.mem_singleton, decide_eq_true_eq]
  constructor
  · rintro (h | h)
    · exact .inr h
    · exact .inl (by omega)
  · rintro (h | h)
    · exact .inr (by omega)
    · exact .inl h
theorem BRow.cong {h : Nat → Bool} (r : BRow w g f n) (e : ∀ i, h i = f i) : BRow w g h n := by
  obtain rfl : h = f := funext e
  exact r
theorem ornO_none (x : Option Nat) : ornO x none = x := by cases x <;> rfl
theorem ornO_step (x r : Option Nat) (b : Bool) (j : Nat) : ornO (ornO x (if b then some j else none)) r = ornO x (if b then some j else r) := by cases x <;> cases b <;> rfl
theorem Lnk.drt_step (h : Lnk lo w nb zs k ar fi la ne) (hi : i < k) : drt f zs i = ornO (drtO f zs (ar i)) (if f i then some i else none) := by
  rw [h.ar i hi]
  rcases Nat.eq_zero_or_pos i with h0 | h0
  · subst h0
    rw [if_pos rfl, drt_top (by have := h.lk.root (by omega); omega)]
    rfl
  · obtain ⟨p, e, hp, _⟩ := h.lk.up i h0 hi
    rw [if_neg (by omega), drt_par e hp, e]
    rfl
theorem Lnk.ar_lt (h : Lnk lo w nb zs k ar fi la ne) (hi : i < k) (hj : ar i = some j) : j < i := by
  rw [h.ar i hi] at hj
  split at hj
  · cases hj
  · have e := Option.some.inj hj
    obtain ⟨p, e2, hp, _⟩ := h.lk.up i (by omega) hi
    rw [e2, Int.toNat_natCast] at e
    omega
end
set_option maxHeartbeats 1000000 in
theorem dirtyRoot_any (lo : Nat) (nb : Nat → Nat) (zs : List Int) (k c g i : Nat) (f : Nat → Bool) (ar fi la ne : Nat → Option Nat) (hi : i < k) (w : World) (h : Lnk lo w nb zs k ar fi la ne) (hb : BRow w g f k) :
    Calls Try.prog 91 #[.pointer (some ⟨nb i, 0, none⟩), .slice (some ⟨g, 0, none⟩) k c] w fun e w' => e = .returned (.int .i64 (oi (drt f zs i))) ∧ w = w' := by
  have L1 := Lib.hid h; have HB := Lib.hid hb
  clear h hb
  go_enter Try.func91, Try.ntmps91
  go_wp2
  go_loopw [5, 6] (fun v p wr => wr = w ∧ ∃ (o r : Option Nat), p = pv nb o ∧ v = .int .i64 (oi r) ∧ Hid (∀ j, o = some j → j < k) ∧ Hid (ornO (drtO f zs o) r = drt f zs i)) (fun _ p wr => numOf wr p)
  case atStart => exact ⟨rfl, some i, none, rfl, rfl, Lib.hid (fun j e => by have := Option.some.inj e; omega), Lib.hid (ornO_none _)⟩
  case round =>
    obtain ⟨rfl, o, r, rfl, rfl, HO, HR⟩ := hrel
    cases o with
    | none =>
      have e0 := HR.out
      simp only [drtO, ornO] at e0
      simp only [pv_none]
      have E0 := Lib.hid e0
      clear e0
      go_wp2
      go_ret
      exact ⟨by rw [← E0.out]; rfl, rfl⟩
    | some j =>
      have hj := HO.out j rfl
      have g1 := L1.out.nd.ar j hj
      have g2 := L1.out.nd.num j hj
      have g3 := HB.out.c j hj
      have nj := L1.out.nd.numOf_some hj
      have ST : ornO (drtO f zs (ar j)) (if f j then some j else r) = drt f zs i := by
        rw [← ornO_step, ← L1.out.drt_step hj]
        exact HR.out
      have RG := Lib.hid (fun j' (e : ar j = some j') => L1.out.rg.ar j j' hj e)
      have ns : numOf wr (pv nb (ar j)) < j + 1 := by
        cases hh : ar j with
        | none => rw [pv_none, numOf_nil]; omega
        | some p =>
          have h1 := L1.out.ar_lt hj hh
          rw [pv_some, L1.out.nd.numOf_some (by omega)]
          omega
      have j0 : (0 : Int) ≤ (j : Int) := by omega
      have j1 : (j : Int) < (k : Int) := by omega
      simp only [pv_some]
      cases hf : f j
      · rw [hf] at g3 ST
        have ST2 : Hid (ornO (drtO f zs (ar j)) r = drt f zs i) := Lib.hid ST
        clear ST hf
        go_wp2
        go_roundw
        case rel => exact ⟨trivial, ar j, r, rfl, rfl, RG, ST2⟩
        case measure => rw [nj]; exact ns
      · rw [hf] at g3 ST
        have ST2 : Hid (ornO (drtO f zs (ar j)) (some j) = drt f zs i) := Lib.hid ST
        clear ST hf
        go_wp2
        go_roundw
        case rel => exact ⟨trivial, ar j, some j, rfl, rfl, RG, ST2⟩
        case measure => rw [nj]; exact ns
/-- The marks are those of boxes of a valid tree. -/
def marksB (n : Nat) (zs ms : List Int) : Bool := vtB n zs && listB 16 ((n : Int) - 1) ms
def rootsL (n : Nat) (zs ms : List Int) : List Int := (List.range n).map fun i => oi (drt (mk ms) zs i)
theorem rootsL_len (n : Nat) (zs ms : List Int) : (rootsL n zs ms).length = n := by simp [rootsL]
theorem rootsL_at {n i : Nat} (zs ms : List Int) (hi : i < n) : (rootsL n zs ms).getD i 0 = oi (drt (mk ms) zs i) := by simp [rootsL, hi]
/-- What rootOfEach answers with. -/
def Rooted (w : World) (n : Nat) (zs ms : List Int) (e : Ending) (w' : World) : Prop :=
  New w w' ∧ ((marksB n zs ms = false ∧ e = .returned (.slice none 0 0)) ∨ (marksB n zs ms = true ∧ ∃ g, e = .returned (.slice (some ⟨g, 0, none⟩) n n) ∧ w.heap.size ≤ g ∧ Row w' g (rootsL n zs ms)))
theorem mks_at {n : Nat} {zs ms : List Int} (h : marksB n zs ms = true) : vtB n zs = true ∧ ms.length ≤ 16 ∧ ∀ z ∈ ms, 0 ≤ z ∧ z < (n : Int) := by
  unfold marksB listB at h
  rw [Bool.and_eq_true, Bool.and_eq_true] at h
  obtain ⟨h1, h2, h3⟩ := h
  have h2 := of_decide_eq_true h2
  refine ⟨h1, by omega, fun z hz => ?_⟩
  have := allB_iff.1 h3 z hz
  omega
end Go.Proofs.Ytobnjagmakhgpaa
