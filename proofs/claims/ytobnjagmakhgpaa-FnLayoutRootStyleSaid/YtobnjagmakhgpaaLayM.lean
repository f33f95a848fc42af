/- Plain facts on layouts: where the boxes of a tree lie on a screen, told box by box from outside to inside; how large their places are at most. No condition. -/
import Derived.Test.YtobnjagmakhgpaaZI
import Derived.Test.YtobnjagmakhgpaaZP
import Derived.Test.YtobnjagmakhgpaaZQ
import Derived.Test.YtobnjagmakhgpaaZR
namespace Go.Proofs.Ytobnjagmakhgpaa
open Go.RowKit

abbrev Rq := Int × Int × Int × Int
def rq0 : Rq := (0, 0, 0, 0)
abbrev qv (q : Rq) : Value := rc q.1 q.2.1 q.2.2.1 q.2.2.2
/-- The numbers of rectangles, one rectangle behind the other. -/
def flat4 (qs : List Rq) : List Int := qs.flatMap fun q => [q.1, q.2.1, q.2.2.1, q.2.2.2]
/-- The inner rectangle of a box. -/
def inQ (zs : List Int) (i : Nat) (q : Rq) : Rq :=
  (nL q.1 q.2.2.1 (zs.getD (i * 9 + 4) 0), nL q.2.1 q.2.2.2 (zs.getD (i * 9 + 4) 0), nW q.2.2.1 (zs.getD (i * 9 + 4) 0), nW q.2.2.2 (zs.getD (i * 9 + 4) 0))
/-- The flexible sizes of boxes. -/
def flxL (g : Nat → Int) (zs : List Int) (l : List Nat) : List Int := l.flatMap fun j => [g j, 0, 10000, zs.getD (j * 9 + 6) 0, zs.getD (j * 9 + 7) 0]
def szL (g : Nat → Int) (zs : List Int) (l : List Nat) (gap sp : Int) : List Int := flexA l.length (flxL g zs l) (mx 0 (sp - gap * mx 0 ((l.length : Int) - 1)))
def ofL (g : Nat → Int) (zs : List Int) (l : List Nat) (gap sp just : Int) : List Int := offsA (szL g zs l gap sp) sp gap just
def topL (g : Nat → Int) (gap : Int) (l : List Nat) (t : Nat) : Int := ((l.take t).map fun j => g j + gap).sum
/-- The rectangles of boxes in a line, side by side. -/
def lineL (g : Nat → Int) (zs : List Int) (l : List Nat) (gap just : Int) (r : Rq) : List Rq :=
  (List.range l.length).map fun t => (r.1 + (ofL g zs l gap r.2.2.1 just).getD t 0, r.2.1, (szL g zs l gap r.2.2.1).getD t 0, r.2.2.2)
def turnQ (q : Rq) : Rq := (q.2.1, q.1, q.2.2.2, q.2.2.1)
/-- The rectangles of boxes below each other. -/
def blkL (g : Nat → Int) (l : List Nat) (gap : Int) (r : Rq) : List Rq :=
  (List.range l.length).map fun t => (r.1, r.2.1 + topL g gap l t, r.2.2.1, g (l.getD t 0))
/-- The rectangles of the boxes directly in a box. -/
def plcL (zs : List Int) (n i : Nat) (q : Rq) : List Rq :=
  if knd zs i = 2 then lineL (fun j => (natL zs n j).1) zs (kidL zs n i) (zs.getD (i * 9 + 5) 0) (zs.getD (i * 9 + 8) 0) (inQ zs i q)
  else if knd zs i = 3 then (lineL (fun j => (natL zs n j).2) zs (kidL zs n i) (zs.getD (i * 9 + 5) 0) (zs.getD (i * 9 + 8) 0) (turnQ (inQ zs i q))).map turnQ
  else blkL (fun j => (natL zs n j).2) (kidL zs n i) (zs.getD (i * 9 + 5) 0) (inQ zs i q)
/-- The rectangle of a box. -/
def layR (zs : List Int) (n : Nat) (W H : Int) (i : Nat) : Rq :=
  if _h : 0 ≤ par zs i ∧ (par zs i).toNat < i then (plcL zs n (par zs i).toNat (layR zs n W H (par zs i).toNat)).getD (kidL zs i (par zs i).toNat).length rq0 else (0, 0, W, H)
termination_by i
decreasing_by omega
/-- A rectangle's numbers are small. -/
def RqB (d : Nat) (q : Rq) : Prop := (0 ≤ q.1 ∧ q.1 ≤ 11000 * (d : Int)) ∧ (0 ≤ q.2.1 ∧ q.2.1 ≤ 11000 * (d : Int)) ∧ (0 ≤ q.2.2.1 ∧ q.2.2.1 ≤ 10000) ∧ (0 ≤ q.2.2.2 ∧ q.2.2.2 ≤ 10000)
section
variable {zs : List Int} {n i j a d t : Nat} {g : Nat → Int} {l : List Nat} {gap sp just W H : Int} {q r : Rq}
theorem RqB.vR (h : RqB d q) (hd : d ≤ 9) : Go.Proofs.Ytobnjagmakhgpaa.vR q.1 q.2.1 q.2.2.1 q.2.2.2 = true := by
  obtain ⟨h1, h2, h3, h4⟩ := h
  rw [vR_iff]
  omega
theorem RqB.turn (h : RqB d q) : RqB d (turnQ q) := ⟨h.2.1, h.1, h.2.2.2, h.2.2.1⟩
theorem flat4_len : ∀ (qs : List Rq), (flat4 qs).length = qs.length * 4
  | [] => rfl
  | s :: ss => by unfold flat4; rw [List.flatMap_cons, List.length_append, List.length_cons]; have := flat4_len ss; unfold flat4 at this; rw [this]; simp; omega
theorem flat4_snoc (qs : List Rq) (q : Rq) : flat4 (qs ++ [q]) = flat4 qs ++ [q.1, q.2.1, q.2.2.1, q.2.2.2] := by unfold flat4; rw [List.flatMap_append]; simp
theorem flat4_at : ∀ (qs : List Rq) (k : Nat), (flat4 qs).getD (k * 4) 0 = (qs.getD k rq0).1 ∧ (flat4 qs).getD (k * 4 + 1) 0 = (qs.getD k rq0).2.1 ∧ (flat4 qs).getD (k * 4 + 2) 0 = (qs.getD k rq0).2.2.1 ∧ (flat4 qs).getD (k * 4 + 3) 0 = (qs.getD k rq0).2.2.2
  | [], k => by simp [flat4, rq0]
  | s :: ss, 0 => by simp [flat4]
  | s :: ss, k + 1 => by
    have h := flat4_at ss k
    have e : flat4 (s :: ss) = [s.1, s.2.1, s.2.2.1, s.2.2.2] ++ flat4 ss := by unfold flat4; rw [List.flatMap_cons]
    rw [e, show (k + 1) * 4 = k * 4 + 4 by omega, show k * 4 + 4 + 1 = k * 4 + 1 + 4 by omega, show k * 4 + 4 + 2 = k * 4 + 2 + 4 by omega, show k * 4 + 4 + 3 = k * 4 + 3 + 4 by omega]
    simp only [List.getD_eq_getElem?_getD, List.getElem?_append_right (show [s.1, s.2.1, s.2.2.1, s.2.2.2].length ≤ k * 4 + 4 by simp), List.getElem?_append_right (show [s.1, s.2.1, s.2.2.1, s.2.2.2].length ≤ k * 4 + 1 + 4 by simp), List.getElem?_append_right (show [s.1, s.2.1, s.2.2.1, s.2.2.2].length ≤ k * 4 + 2 + 4 by simp), List.getElem?_append_right (show [s.1, s.2.1, s.2.2.1, s.2.2.2].length ≤ k * 4 + 3 + 4 by simp)] at h ⊢
    simpa using h
theorem flxL_len : ∀ (l : List Nat), (flxL g zs l).length = l.length * 5
  | [] => rfl
  | s :: ss => by
    have ih := flxL_len ss
    have e : flxL g zs (s :: ss) = [g s, 0, 10000, zs.getD (s * 9 + 6) 0, zs.getD (s * 9 + 7) 0] ++ flxL g zs ss := by unfold flxL; rw [List.flatMap_cons]
    rw [e, List.length_append, ih]; simp; omega
theorem flxL_snoc (l : List Nat) (j : Nat) : flxL g zs (l ++ [j]) = flxL g zs l ++ [g j, 0, 10000, zs.getD (j * 9 + 6) 0, zs.getD (j * 9 + 7) 0] := by unfold flxL; rw [List.flatMap_append]; simp
theorem flxL_at : ∀ (l : List Nat) (k c : Nat), k < l.length → c < 5 → (flxL g zs l).getD (k * 5 + c) 0 = [g (l.getD k 0), 0, 10000, zs.getD (l.getD k 0 * 9 + 6) 0, zs.getD (l.getD k 0 * 9 + 7) 0].getD c 0
  | [], k, c, h, _ => absurd h (by simp)
  | s :: ss, 0, c, _, hc => by
    have e : flxL g zs (s :: ss) = [g s, 0, 10000, zs.getD (s * 9 + 6) 0, zs.getD (s * 9 + 7) 0] ++ flxL g zs ss := by unfold flxL; rw [List.flatMap_cons]
    rw [e, Nat.zero_mul, Nat.zero_add]
    rw [List.getD_cons_zero, List.getD_eq_getElem?_getD, List.getElem?_append_left (by simpa using hc), ← List.getD_eq_getElem?_getD]
  | s :: ss, k + 1, c, h, hc => by
    have ih := flxL_at ss k c (by simpa using h) hc
    have e : flxL g zs (s :: ss) = [g s, 0, 10000, zs.getD (s * 9 + 6) 0, zs.getD (s * 9 + 7) 0] ++ flxL g zs ss := by unfold flxL; rw [List.flatMap_cons]
    rw [e, show (k + 1) * 5 + c = k * 5 + c + 5 by omega, List.getD_cons_succ, ← ih, List.getD_eq_getElem?_getD, List.getElem?_append_right (by simp), List.getD_eq_getElem?_getD]
    simp
/-- What boxes in a line need. -/
structure LineP (zs : List Int) (l : List Nat) (g : Nat → Int) (gap : Int) : Prop where
  l1 : 1 ≤ l.length
  l8 : l.length ≤ 8
  g0 : ∀ j ∈ l, 0 ≤ g j ∧ g j ≤ 10000
  gs : (l.map g).sum ≤ 9000
  gr : ∀ j ∈ l, (0 ≤ zs.getD (j * 9 + 6) 0 ∧ zs.getD (j * 9 + 6) 0 ≤ 10) ∧ (0 ≤ zs.getD (j * 9 + 7) 0 ∧ zs.getD (j * 9 + 7) 0 ≤ 10)
  gp : 0 ≤ gap ∧ gap ≤ 50
theorem getD_mem_n {l : List Nat} (h : t < l.length) : l.getD t 0 ∈ l := by
  rw [show l.getD t 0 = l[t] by simp [h]]
  exact List.getElem_mem h
theorem LineP.ok (h : LineP zs l g gap) : flsB l.length (flxL g zs l) = true := by
  refine flsB_iff.2 ⟨⟨h.l1, h.l8⟩, fun k hk => flOk_iff.2 ?_⟩
  have hm := getD_mem_n hk
  have a0 := flxL_at (g := g) (zs := zs) l k 0 hk (by omega)
  have a1 := flxL_at (g := g) (zs := zs) l k 1 hk (by omega)
  have a2 := flxL_at (g := g) (zs := zs) l k 2 hk (by omega)
  have a3 := flxL_at (g := g) (zs := zs) l k 3 hk (by omega)
  have a4 := flxL_at (g := g) (zs := zs) l k 4 hk (by omega)
  simp only [List.getD_cons_zero, List.getD_cons_succ, Nat.add_zero] at a0 a1 a2 a3 a4
  rw [a0, a1, a2, a3, a4]
  have := h.g0 _ hm
  have := h.gr _ hm
  omega
theorem LineP.base (_h : LineP zs l g gap) : colL l.length (flxL g zs l) 0 = l.map g := by
  refine list_ext (by rw [colL_len, List.length_map]) fun k hk => ?_
  rw [colL_len] at hk
  rw [colL_at hk, flxL_at l k 0 hk (by omega)]
  simp [hk]
def spO (l : List Nat) (gap sp : Int) : Int := mx 0 (sp - gap * mx 0 ((l.length : Int) - 1))
theorem LineP.gaps (h : LineP zs l g gap) : 0 ≤ gap * mx 0 ((l.length : Int) - 1) ∧ gap * mx 0 ((l.length : Int) - 1) ≤ 350 ∧ gap * mx 0 ((l.length : Int) - 1) = gap * ((l.length : Int) - 1) := by
  have h1 := h.l1
  have h8 := h.l8
  have e : mx 0 ((l.length : Int) - 1) = (l.length : Int) - 1 := by unfold mx; omega
  have m0 : 0 ≤ (l.length : Int) - 1 ∧ (l.length : Int) - 1 ≤ 7 := by omega
  rw [e]
  have p0 : 0 ≤ gap * ((l.length : Int) - 1) := Int.mul_nonneg h.gp.1 m0.1
  have p1 := Int.mul_le_mul h.gp.2 m0.2 m0.1 (by omega : (0 : Int) ≤ 50)
  exact ⟨p0, by omega, rfl⟩
theorem LineP.spo (h : LineP zs l g gap) (hs : 0 ≤ sp ∧ sp ≤ 10000) : 0 ≤ spO l gap sp ∧ spO l gap sp ≤ 10000 ∧ spO l gap sp ≤ mx 0 (sp - gap * ((l.length : Int) - 1)) := by
  obtain ⟨a, b, e⟩ := h.gaps
  unfold spO
  rw [e] at a b ⊢
  unfold mx
  omega
theorem LineP.sz (h : LineP zs l g gap) (hs : 0 ≤ sp ∧ sp ≤ 10000) : szL g zs l gap sp = flexL l.length (flxL g zs l) (spO l gap sp) := by
  have := h.spo hs
  unfold szL flexA
  exact if_pos (flOkA_iff.2 ⟨h.ok, by unfold spO at this; omega⟩)
theorem LineP.sz_len (h : LineP zs l g gap) (hs : 0 ≤ sp ∧ sp ≤ 10000) : (szL g zs l gap sp).length = l.length := by rw [h.sz hs, flexL_len]
theorem LineP.sz_bd (h : LineP zs l g gap) (hs : 0 ≤ sp ∧ sp ≤ 10000) (ht : t < l.length) : 0 ≤ (szL g zs l gap sp).getD t 0 ∧ (szL g zs l gap sp).getD t 0 ≤ 10000 := by
  have h1 := h.spo hs
  have h2 := flexL_bd h.ok (s := spO l gap sp) (by omega) t ht
  have a1 := flxL_at (g := g) (zs := zs) l t 1 ht (by omega)
  have a2 := flxL_at (g := g) (zs := zs) l t 2 ht (by omega)
  simp only [List.getD_cons_zero, List.getD_cons_succ] at a1 a2
  rw [a1, a2] at h2
  rw [h.sz hs]
  exact h2
/-- All sizes together are at most the space, or what they need. -/
theorem LineP.sz_sum (h : LineP zs l g gap) (hs : 0 ≤ sp ∧ sp ≤ 10000) : (szL g zs l gap sp).sum ≤ spO l gap sp ∨ (szL g zs l gap sp).sum ≤ (l.map g).sum := by
  have h1 := h.spo hs
  have hb := h.base
  rw [h.sz hs]
  by_cases hl : 0 ≤ spO l gap sp - (colL l.length (flxL g zs l) 0).sum
  · exact .inl (flex_grow h.ok (by omega) hl).2.1
  · right
    have h2 := (flex_shrink h.ok (s := spO l gap sp) (by omega) hl).1
    rw [← hb]
    refine sum_mono (by rw [flexL_len, colL_len]) fun k hk => ?_
    rw [flexL_len] at hk
    rw [colL_at hk]
    simpa using h2 k hk
theorem LineP.row (h : LineP zs l g gap) (hs : 0 ≤ sp ∧ sp ≤ 10000) : rowB 10000 (szL g zs l gap sp) = true := by
  have h1 := h.l1
  have h8 := h.l8
  refine rowB_iff.2 ⟨by rw [h.sz_len hs]; omega, all_at (P := fun z => 0 ≤ z ∧ z ≤ 10000) fun k hk => ?_⟩
  rw [h.sz_len hs] at hk
  exact h.sz_bd hs hk
theorem LineP.of (h : LineP zs l g gap) (hs : 0 ≤ sp ∧ sp ≤ 10000) (hj : 0 ≤ just ∧ just ≤ 3) :
    ofL g zs l gap sp just = offsL gap (frontL (leftA (szL g zs l gap sp) sp gap) l.length just) (szL g zs l gap sp) := by
  have hg := h.gp
  unfold ofL offsA
  rw [if_pos (ofOk_iff.2 ⟨h.row hs, by omega, by omega, hj⟩), h.sz_len hs]
theorem LineP.of_len (h : LineP zs l g gap) (hs : 0 ≤ sp ∧ sp ≤ 10000) (hj : 0 ≤ just ∧ just ≤ 3) : (ofL g zs l gap sp just).length = l.length := by
  rw [h.of hs hj, offsL_len, h.sz_len hs]
theorem take_le {xs : List Int} (h : ∀ i, 0 ≤ xs.getD i 0) : ∀ k, k ≤ xs.length → 0 ≤ (xs.take k).sum ∧ (xs.take k).sum ≤ xs.sum := by
  have up : ∀ m, ∀ k, k + m = xs.length → (xs.take k).sum ≤ xs.sum := by
    intro m
    induction m with
    | zero => intro k hk; rw [List.take_of_length_le (by omega)]; exact Int.le_refl _
    | succ m ih =>
      intro k hk
      have h1 := ih (k + 1) (by omega)
      rw [sum_snoc (by omega)] at h1
      have := h k
      omega
  intro k
  induction k with
  | zero => intro hk; exact ⟨by simp, up xs.length 0 (by omega)⟩
  | succ k ih =>
    intro hk
    refine ⟨?_, up (xs.length - (k + 1)) (k + 1) (by omega)⟩
    rw [sum_snoc (by omega)]
    have := ih (by omega)
    have := h k
    omega
theorem LineP.left (h : LineP zs l g gap) (hs : 0 ≤ sp ∧ sp ≤ 10000) : (0 ≤ leftA (szL g zs l gap sp) sp gap ∧ leftA (szL g zs l gap sp) sp gap ≤ 200000) ∧ 0 ≤ (szL g zs l gap sp).sum ∧ leftA (szL g zs l gap sp) sp gap + (szL g zs l gap sp).sum + gap * ((l.length : Int) - 1) ≤ 10350 := by
  have hg := h.gaps
  have hp := h.spo hs
  have s0 := sum_nonneg (xs := szL g zs l gap sp) fun z hz => (((rowB_iff.1 (h.row hs)).2 z hz).1)
  have s1 := h.sz_sum hs
  have s2 := h.gs
  rw [hg.2.2] at hg
  have hl := leftA_bd (szL g zs l gap sp) sp gap s0 (by omega) (by rw [h.sz_len hs]; omega)
  refine ⟨hl, s0, ?_⟩
  have e : leftA (szL g zs l gap sp) sp gap = mx 0 (sp - (szL g zs l gap sp).sum - gap * ((l.length : Int) - 1)) := by unfold leftA; rw [h.sz_len hs]
  rw [e]
  unfold mx at *
  omega
theorem LineP.of_bd (h : LineP zs l g gap) (hs : 0 ≤ sp ∧ sp ≤ 10000) (hj : 0 ≤ just ∧ just ≤ 3) (ht : t < l.length) : 0 ≤ (ofL g zs l gap sp just).getD t 0 ∧ (ofL g zs l gap sp just).getD t 0 ≤ 10350 := by
  have h1 := h.l1
  have h8 := h.l8
  obtain ⟨hl, s0, hs2⟩ := h.left hs
  have hlen := h.sz_len hs
  have fl := frontL_len (leftA (szL g zs l gap sp) sp gap) l.length just hl ⟨h1, h8⟩
  have fb := frontL_bd (leftA (szL g zs l gap sp) sp gap) l.length just hl ⟨h1, h8⟩
  have fs := frontL_sum (leftA (szL g zs l gap sp) sp gap) l.length just hl ⟨h1, h8⟩
  have sz0 : ∀ i, 0 ≤ (szL g zs l gap sp).getD i 0 := fun i => by
    rcases Nat.lt_or_ge i l.length with hi | hi
    · exact (h.sz_bd hs hi).1
    · rw [show (szL g zs l gap sp).getD i 0 = 0 by rw [List.getD_eq_getElem?_getD, List.getElem?_eq_none (by omega)]; rfl]; exact Int.le_refl _
  rw [h.of hs hj]
  generalize frontL (leftA (szL g zs l gap sp) sp gap) l.length just = fr at *
  generalize leftA (szL g zs l gap sp) sp gap = lf at *
  generalize szL g zs l gap sp = sz at *
  rw [offsL_at _ _ _ _ (by omega)]
  unfold offAt
  rw [end_sum gap fr sz t (by omega) (by omega)]
  have f1 := take_le (fun i => (fb i).1) (t + 1) (by omega)
  rw [sum_snoc (by omega)] at f1
  have f0 := take_le (fun i => (fb i).1) t (by omega)
  have z1 := take_le sz0 t (by omega)
  have b0 := (fb t).1
  have t0 : 0 ≤ (t : Int) ∧ (t : Int) ≤ (l.length : Int) - 1 := by omega
  have g1 : 0 ≤ gap * (t : Int) := Int.mul_nonneg h.gp.1 t0.1
  have g2 : gap * (t : Int) ≤ gap * ((l.length : Int) - 1) := Int.mul_le_mul_of_nonneg_left t0.2 h.gp.1
  have fs2 : fr.sum ≤ lf := by
    rw [fs]
    split
    · exact Int.le_refl _
    · split
      · omega
      · split
        · exact Int.le_refl _
        · omega
  omega
theorem lineL_len : (lineL g zs l gap just r).length = l.length := by simp [lineL]
theorem lineL_at (ht : t < l.length) : (lineL g zs l gap just r).getD t rq0 = (r.1 + (ofL g zs l gap r.2.2.1 just).getD t 0, r.2.1, (szL g zs l gap r.2.2.1).getD t 0, r.2.2.2) := by simp [lineL, ht]
theorem lineT_at (ht : t < l.length) : ((lineL g zs l gap just r).map turnQ).getD t rq0 = (r.2.1, r.1 + (ofL g zs l gap r.2.2.1 just).getD t 0, r.2.2.2, (szL g zs l gap r.2.2.1).getD t 0) := by simp [lineL, ht, turnQ]
theorem blkL_len : (blkL g l gap r).length = l.length := by simp [blkL]
theorem blkL_at (ht : t < l.length) : (blkL g l gap r).getD t rq0 = (r.1, r.2.1 + topL g gap l t, r.2.2.1, g (l.getD t 0)) := by simp [blkL, ht]
theorem plcL_len : (plcL zs n i q).length = (kidL zs n i).length := by
  unfold plcL
  split
  · exact lineL_len
  · split
    · rw [List.length_map]; exact lineL_len
    · exact blkL_len
theorem topL_succ (ht : t < l.length) : topL g gap l (t + 1) = topL g gap l t + g (l.getD t 0) + gap := by
  unfold topL
  rw [List.take_succ_eq_append_getElem ht, List.map_append, List.sum_append]
  simp [ht]
  omega
theorem topL_bd (h : LineP zs l g gap) (ht : t ≤ l.length) : 0 ≤ topL g gap l t ∧ topL g gap l t ≤ (l.map g).sum + 50 * (t : Int) := by
  have key : ∀ t, t ≤ l.length → 0 ≤ topL g gap l t ∧ topL g gap l t = ((l.take t).map g).sum + gap * (t : Int) := by
    intro t
    induction t with
    | zero => intro _; simp [topL]
    | succ t ih =>
      intro ht
      obtain ⟨h1, h2⟩ := ih (by omega)
      have h3 := h.g0 _ (getD_mem_n (t := t) (by omega : t < l.length))
      have hg := h.gp
      rw [topL_succ (by omega), List.take_succ_eq_append_getElem (by omega), List.map_append, List.sum_append]
      have e : gap * ((t + 1 : Nat) : Int) = gap * (t : Int) + gap := by rw [Int.natCast_add, Int.mul_add]; simp
      rw [e]
      have e2 : g (l.getD t 0) = g l[t] := by simp [show t < l.length by omega]
      simp only [List.map_cons, List.map_nil, List.sum_cons, List.sum_nil]
      rw [← e2]
      omega
  obtain ⟨h1, h2⟩ := key t ht
  have h3 : ((l.take t).map g).sum ≤ (l.map g).sum := by
    have h4 := take_le (xs := l.map g) (fun i => by
      rcases Nat.lt_or_ge i l.length with hi | hi
      · rw [show (l.map g).getD i 0 = g l[i] by simp [hi]]
        exact (h.g0 _ (List.getElem_mem hi)).1
      · simp [hi]) t (by rw [List.length_map]; exact ht)
    rw [← List.map_take] at h4
    exact h4.2
  have h5 : gap * (t : Int) ≤ 50 * (t : Int) := Int.mul_le_mul_of_nonneg_right h.gp.2 (by omega)
  omega
theorem inQ_bd (hp : 0 ≤ zs.getD (i * 9 + 4) 0 ∧ zs.getD (i * 9 + 4) 0 ≤ 50) (h : RqB d q) :
    (q.1 ≤ (inQ zs i q).1 ∧ (inQ zs i q).1 ≤ q.1 + 50) ∧ (q.2.1 ≤ (inQ zs i q).2.1 ∧ (inQ zs i q).2.1 ≤ q.2.1 + 50) ∧ (0 ≤ (inQ zs i q).2.2.1 ∧ (inQ zs i q).2.2.1 ≤ 10000) ∧ (0 ≤ (inQ zs i q).2.2.2 ∧ (inQ zs i q).2.2.2 ≤ 10000) := by
  obtain ⟨h1, h2, h3, h4⟩ := h
  unfold inQ nL nW mn mx
  dsimp only
  omega
theorem kids_in (hv : vtB n zs = true) (hi : i < n) (h0 : kidL zs n i ≠ []) (hg : (∀ j, g j = (natL zs n j).1) ∨ ∀ j, g j = (natL zs n j).2) : LineP zs (kidL zs n i) g (zs.getD (i * 9 + 5) 0) := by
  have hL := link_vt hv
  have G : ∀ j ∈ kidL zs n i, (0 ≤ g j ∧ g j ≤ 10000) ∧ g j ≤ 600 * ((en zs n j : Int) - (j : Int)) := fun j hj => by
    obtain ⟨_, _, h3⟩ := hL.kid_in hj
    have h4 := nat_sm hv h3
    have h5 := nat_bd hv h3
    rcases hg with hg | hg
    · rw [hg j]; omega
    · rw [hg j]; omega
  refine ⟨List.length_pos_iff.2 h0, kids_le hv, fun j hj => (G j hj).1, ?_, fun j hj => ?_, gap_bd hv hi⟩
  · have s1 := kid_sum hL hi
    have s2 := sum_monoN (f := g) (g := fun j => 600 * ((en zs n j : Int) - (j : Int))) (kidL zs n i) fun j hj => (G j hj).2
    rw [sum_mul 600 (fun j => (en zs n j : Int) - (j : Int)), s1] at s2
    have s3 := en_bd (zs := zs) hi
    have s4 := (vtB_iff.1 hv).1
    omega
  · obtain ⟨_, _, _, _, _, h6, h7, _⟩ := ((vtB_iff.1 hv).2 j (kid_mem.1 hj).1).1
    exact ⟨h6, h7⟩
theorem just_bd (hv : vtB n zs = true) (hi : i < n) : 0 ≤ zs.getD (i * 9 + 8) 0 ∧ zs.getD (i * 9 + 8) 0 ≤ 3 := by
  obtain ⟨_, _, _, _, _, _, _, h8⟩ := ((vtB_iff.1 hv).2 i hi).1
  exact h8
/-- What a line's sizes and places are like, also where there are no boxes. -/
structure LineO (zs : List Int) (l : List Nat) (g : Nat → Int) (gap sp just : Int) : Prop where
  ls : (szL g zs l gap sp).length = l.length
  lo : (ofL g zs l gap sp just).length = l.length
  sb : ∀ t, t < l.length → 0 ≤ (szL g zs l gap sp).getD t 0 ∧ (szL g zs l gap sp).getD t 0 ≤ 10000
  ob : ∀ t, t < l.length → 0 ≤ (ofL g zs l gap sp just).getD t 0 ∧ (ofL g zs l gap sp just).getD t 0 ≤ 10350
theorem LineP.o (h : LineP zs l g gap) (hs : 0 ≤ sp ∧ sp ≤ 10000) (hj : 0 ≤ just ∧ just ≤ 3) : LineO zs l g gap sp just :=
  ⟨h.sz_len hs, h.of_len hs hj, fun _ ht => h.sz_bd hs ht, fun _ ht => h.of_bd hs hj ht⟩
theorem LineO.nil (zs : List Int) (g : Nat → Int) (gap sp just : Int) : LineO zs [] g gap sp just := by
  have e1 : szL g zs [] gap sp = [] := by
    unfold szL flexA
    rw [if_neg]
    intro h
    have := (flsB_iff.1 (flOkA_iff.1 h).1).1.1
    simp at this
  have e2 : ofL g zs [] gap sp just = [] := by
    unfold ofL offsA
    rw [e1, if_neg]
    intro h
    have := (rowB_iff.1 (ofOk_iff.1 h).1).1
    simp at this
  exact ⟨by rw [e1]; rfl, by rw [e2]; rfl, fun t ht => absurd ht (by simp), fun t ht => absurd ht (by simp)⟩
theorem line_o (hv : vtB n zs = true) (hi : i < n) (hg : (∀ j, g j = (natL zs n j).1) ∨ ∀ j, g j = (natL zs n j).2) (hs : 0 ≤ sp ∧ sp ≤ 10000) : LineO zs (kidL zs n i) g (zs.getD (i * 9 + 5) 0) sp (zs.getD (i * 9 + 8) 0) := by
  by_cases h0 : kidL zs n i = []
  · rw [h0]; exact LineO.nil _ _ _ _ _
  · exact (kids_in hv hi h0 hg).o hs (just_bd hv hi)
theorem plc_bd (hv : vtB n zs = true) (hi : i < n) (h : RqB d q) (ht : t < (kidL zs n i).length) : RqB (d + 1) ((plcL zs n i q).getD t rq0) := by
  have h0 : kidL zs n i ≠ [] := fun e => by rw [e] at ht; simp at ht
  obtain ⟨b1, b2, b3, b4⟩ := inQ_bd (pad_bd hv hi) h
  obtain ⟨q1, q2, q3, q4⟩ := h
  have hj := just_bd hv hi
  unfold plcL
  generalize inQ zs i q = r at *
  by_cases hk : knd zs i = 2
  · have P := kids_in (g := fun j => (natL zs n j).1) hv hi h0 (.inl fun _ => rfl)
    have o := P.of_bd b3 hj ht
    have s := P.sz_bd b3 ht
    rw [if_pos hk, lineL_at ht]
    unfold RqB
    dsimp only
    omega
  · by_cases hk3 : knd zs i = 3
    · have P := kids_in (g := fun j => (natL zs n j).2) hv hi h0 (.inr fun _ => rfl)
      have o := P.of_bd b4 hj ht
      have s := P.sz_bd b4 ht
      rw [if_neg hk, if_pos hk3, lineT_at ht]
      unfold RqB turnQ
      dsimp only
      omega
    · have P := kids_in (g := fun j => (natL zs n j).2) hv hi h0 (.inr fun _ => rfl)
      have o := topL_bd P (Nat.le_of_lt ht)
      have s := P.g0 _ (getD_mem_n ht)
      have p1 := P.gs
      have p8 := P.l8
      rw [if_neg hk, if_neg hk3, blkL_at ht]
      unfold RqB
      dsimp only at o s p1 ⊢
      omega
theorem kid_less (hj : j ≤ n) : (kidL zs n a).filter (fun k => decide (k < j)) = kidL zs j a := by
  induction n with
  | zero => obtain rfl : j = 0 := by omega
            rfl
  | succ n ih =>
    rcases Nat.lt_or_ge n j with h | h
    · obtain rfl : j = n + 1 := by omega
      exact List.filter_eq_self.2 fun k hk => decide_eq_true (kid_mem.1 hk).1
    · rw [kid_succ]
      split
      · rw [List.filter_append, ih h]; simp; omega
      · exact ih h
theorem kid_before {done rest : List Nat} (h : kidL zs n a = done ++ j :: rest) : kidL zs j a = done := by
  have hj : j < n := (kid_mem.1 (show j ∈ kidL zs n a by rw [h]; simp)).1
  have hs := kid_sorted zs n a
  rw [h] at hs
  obtain ⟨_, h2, h3⟩ := List.pairwise_append.1 hs
  have h4 := (List.pairwise_cons.1 h2).1
  rw [← kid_less (n := n) (Nat.le_of_lt hj), h, List.filter_append, List.filter_eq_self.2 (fun k hk => decide_eq_true (h3 k hk j List.mem_cons_self)), List.filter_eq_nil_iff.2 (fun k hk => ?_), List.append_nil]
  rcases List.mem_cons.1 hk with rfl | hk
  · simp
  · have := h4 k hk; simp; omega
theorem lay_top (h : par zs i < 0) : layR zs n W H i = (0, 0, W, H) := by rw [layR, dif_neg (by omega)]
theorem lay_par (h : par zs i = (a : Int)) (ha : a < i) : layR zs n W H i = (plcL zs n a (layR zs n W H a)).getD (kidL zs i a).length rq0 := by
  rw [layR, dif_pos ⟨by omega, by omega⟩, h]
  simp
theorem lay_kid (hL : Link zs n) {done rest : List Nat} (h : kidL zs n a = done ++ j :: rest) : layR zs n W H j = (plcL zs n a (layR zs n W H a)).getD done.length rq0 := by
  obtain ⟨_, h2, _⟩ := hL.kid_in (j := j) (a := a) (by rw [h]; simp)
  rw [lay_par (kid_mem.1 (show j ∈ kidL zs n a by rw [h]; simp)).2 h2, kid_before h]
theorem kid_idx {j : Nat} (hj : j ∈ kidL zs n a) : ∃ done rest, kidL zs n a = done ++ j :: rest := List.append_of_mem hj
theorem lay_bd (hv : vtB n zs = true) (hW : 0 ≤ W ∧ W ≤ 10000) (hH : 0 ≤ H ∧ H ≤ 10000) : ∀ i, i < n → RqB (dep zs i) (layR zs n W H i) := by
  intro i
  induction i using Nat.strongRecOn with
  | ind i ih =>
    intro hi
    have hL := link_vt hv
    rcases Nat.eq_zero_or_pos i with h0 | h0
    · subst h0
      have hr := hL.root (by omega)
      rw [lay_top (by omega), dep_top (by omega)]
      unfold RqB
      dsimp only
      omega
    · obtain ⟨p, e, hp, _⟩ := hL.up i h0 hi
      obtain ⟨done, rest, hd⟩ := kid_idx (n := n) (zs := zs) (a := p) (j := i) (kid_mem.2 ⟨hi, e⟩)
      rw [lay_kid hL hd, dep_par e hp]
      exact plc_bd hv (by omega) (ih p hp (by omega)) (by rw [hd]; simp)
theorem lay_vR (hv : vtB n zs = true) (hW : 0 ≤ W ∧ W ≤ 10000) (hH : 0 ≤ H ∧ H ≤ 10000) (hi : i < n) : Go.Proofs.Ytobnjagmakhgpaa.vR (layR zs n W H i).1 (layR zs n W H i).2.1 (layR zs n W H i).2.2.1 (layR zs n W H i).2.2.2 = true :=
  (lay_bd hv hW hH i hi).vR (by have := dep_le5 hv hi; omega)
end
end Go.Proofs.Ytobnjagmakhgpaa
