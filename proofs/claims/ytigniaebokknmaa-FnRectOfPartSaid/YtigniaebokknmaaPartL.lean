/- Plain facts on layouts of parts: a part that is laid out alone, in the size of its first box, lies as in the tree, moved. No condition. -/
import Derived.Test.YtigniaebokknmaaPartN
import Derived.Test.YtigniaebokknmaaLayA
namespace Go.Proofs.Ytigniaebokknmaa
open Go.RowKit

def shR (dx dy : Int) (q : Rq) : Rq := (q.1 + dx, q.2.1 + dy, q.2.2.1, q.2.2.2)
section
variable {zs ys : List Int} {a m n : Nat} {dx dy : Int} {g g' : Nat → Int}
theorem inQ_sh {i j : Nat} {q : Rq} (h : zs.getD (i * 9 + 4) 0 = ys.getD (j * 9 + 4) 0) : inQ zs i (shR dx dy q) = shR dx dy (inQ ys j q) := by
  unfold inQ shR nL
  rw [h]
  refine Prod.ext ?_ (Prod.ext ?_ (Prod.ext rfl rfl)) <;> (dsimp only; omega)
theorem flxL_map : ∀ (l : List Nat), (∀ j ∈ l, g (a + j) = g' j ∧ zs.getD ((a + j) * 9 + 6) 0 = ys.getD (j * 9 + 6) 0 ∧ zs.getD ((a + j) * 9 + 7) 0 = ys.getD (j * 9 + 7) 0) → flxL g zs (l.map (a + ·)) = flxL g' ys l
  | [], _ => rfl
  | j :: l, h => by
    have ih := flxL_map l (fun x hx => h x (List.mem_cons_of_mem _ hx))
    obtain ⟨h1, h2, h3⟩ := h j List.mem_cons_self
    unfold flxL at ih ⊢
    rw [List.map_cons, List.flatMap_cons, List.flatMap_cons, ih, h1, h2, h3]
theorem szL_map {l : List Nat} {gap sp : Int} (h : ∀ j ∈ l, g (a + j) = g' j ∧ zs.getD ((a + j) * 9 + 6) 0 = ys.getD (j * 9 + 6) 0 ∧ zs.getD ((a + j) * 9 + 7) 0 = ys.getD (j * 9 + 7) 0) : szL g zs (l.map (a + ·)) gap sp = szL g' ys l gap sp := by
  unfold szL
  rw [flxL_map l h, List.length_map]
theorem ofL_map {l : List Nat} {gap sp just : Int} (h : ∀ j ∈ l, g (a + j) = g' j ∧ zs.getD ((a + j) * 9 + 6) 0 = ys.getD (j * 9 + 6) 0 ∧ zs.getD ((a + j) * 9 + 7) 0 = ys.getD (j * 9 + 7) 0) : ofL g zs (l.map (a + ·)) gap sp just = ofL g' ys l gap sp just := by
  unfold ofL
  rw [szL_map h]
theorem topL_map {l : List Nat} {gap : Int} (h : ∀ j ∈ l, g (a + j) = g' j) (t : Nat) : topL g gap (l.map (a + ·)) t = topL g' gap l t := by
  unfold topL
  rw [← List.map_take, List.map_map]
  congr 1
  refine List.map_congr_left fun j hj => ?_
  show g (a + j) + gap = _
  rw [h j (List.mem_of_mem_take hj)]
/-- The places of the boxes directly in a box of a part. -/
theorem plc_sh (h : Shift zs ys a m) (hv : vtB n zs = true) (hy : vtB m ys = true) (ha : a < n) (hm : m = en zs n a - a) {p t : Nat} {q : Rq} (hp : p < m) (ht : t < (kidL ys m p).length) :
    (plcL zs n (a + p) (shR dx dy q)).getD t rq0 = shR dx dy ((plcL ys m p q).getD t rq0) := by
  have LZ := link_vt hv; have LY := link_vt hy
  have hk := shift_kids h LZ ha hm hp
  have hb := fun j h1 h2 => h.box p j hp h1 h2
  have kn := h.knd hp
  have ein := inQ_sh (zs := zs) (ys := ys) (i := a + p) (j := p) (dx := dx) (dy := dy) (q := q) (hb 4 (by omega) (by omega)).symm
  have hj : ∀ j ∈ kidL ys m p, j < m := fun j hj => (kid_mem.1 hj).1
  have hc : ∀ j ∈ kidL ys m p, natL zs n (a + j) = natL ys m j ∧ zs.getD ((a + j) * 9 + 6) 0 = ys.getD (j * 9 + 6) 0 ∧ zs.getD ((a + j) * 9 + 7) 0 = ys.getD (j * 9 + 7) 0 := fun j hjj =>
    ⟨(shift_nat h hv hy ha hm j (hj j hjj)).symm, (h.box j 6 (hj j hjj) (by omega) (by omega)).symm, (h.box j 7 (hj j hjj) (by omega) (by omega)).symm⟩
  have ht' : t < (kidL zs n (a + p)).length := by rw [hk, List.length_map]; exact ht
  have ht2 : t < ((kidL ys m p).map (a + ·)).length := by rw [List.length_map]; exact ht
  unfold plcL
  rw [ein, ← kn, ← hb 5 (by omega) (by omega), ← hb 8 (by omega) (by omega), hk]
  generalize inQ ys p q = r
  by_cases h2 : knd ys p = 2
  · rw [if_pos h2, if_pos h2, lineL_at ht2, lineL_at ht]
    rw [ofL_map (g := fun j => (natL zs n j).1) (g' := fun j => (natL ys m j).1) (fun j hj => by obtain ⟨a1, a2, a3⟩ := hc j hj; exact ⟨by rw [a1], a2, a3⟩), szL_map (g := fun j => (natL zs n j).1) (g' := fun j => (natL ys m j).1) (fun j hj => by obtain ⟨a1, a2, a3⟩ := hc j hj; exact ⟨by rw [a1], a2, a3⟩)]
    unfold shR
    refine Prod.ext ?_ (Prod.ext rfl (Prod.ext rfl rfl))
    dsimp only; omega
  · rw [if_neg h2, if_neg h2]
    by_cases h3 : knd ys p = 3
    · rw [if_pos h3, if_pos h3, lineT_at ht2, lineT_at ht]
      rw [ofL_map (g := fun j => (natL zs n j).2) (g' := fun j => (natL ys m j).2) (fun j hj => by obtain ⟨a1, a2, a3⟩ := hc j hj; exact ⟨by rw [a1], a2, a3⟩), szL_map (g := fun j => (natL zs n j).2) (g' := fun j => (natL ys m j).2) (fun j hj => by obtain ⟨a1, a2, a3⟩ := hc j hj; exact ⟨by rw [a1], a2, a3⟩)]
      unfold shR turnQ
      refine Prod.ext rfl (Prod.ext ?_ (Prod.ext rfl rfl))
      dsimp only; omega
    · rw [if_neg h3, if_neg h3, blkL_at ht2, blkL_at ht, topL_map (g := fun j => (natL zs n j).2) (g' := fun j => (natL ys m j).2) (fun j hj => by rw [(hc j hj).1])]
      have eg : ((kidL ys m p).map (a + ·)).getD t 0 = a + (kidL ys m p).getD t 0 := by simp [ht]
      rw [eg, (hc _ (kid_get ht)).1]
      unfold shR
      refine Prod.ext rfl (Prod.ext ?_ (Prod.ext rfl rfl))
      dsimp only; omega
/-- A part that is laid out alone. -/
theorem lay_part (h : Shift zs ys a m) (hv : vtB n zs = true) (hy : vtB m ys = true) (ha : a < n) (hm : m = en zs n a - a) {W H : Int} : ∀ k, k < m → layR zs n W H (a + k) = shR (layR zs n W H a).1 (layR zs n W H a).2.1 (layR ys m (layR zs n W H a).2.2.1 (layR zs n W H a).2.2.2 k) := by
  intro k
  induction k using Nat.strongRecOn with
  | ind k ih =>
    intro hk
    have LZ := link_vt hv; have LY := link_vt hy
    rcases Nat.eq_zero_or_pos k with h0 | h0
    · subst h0
      rw [lay_top (zs := ys) (by rw [h.root]; omega), Nat.add_zero]
      unfold shR
      dsimp only
      refine Prod.ext ?_ (Prod.ext ?_ (Prod.ext rfl rfl)) <;> (dsimp only; omega)
    · obtain ⟨p, p1, p2, hp⟩ := h.par k h0 hk
      have eb := en_bd (zs := zs) ha
      have hj : k ∈ kidL ys m p := kid_mem.2 ⟨hk, p2⟩
      obtain ⟨t, ht, et⟩ := List.getElem_of_mem hj
      have gt : (kidL ys m p).getD t 0 = k := by simp [ht, et]
      have hkk := shift_kids h LZ ha hm (show p < m by omega)
      have ht' : t < (kidL zs n (a + p)).length := by rw [hkk, List.length_map]; exact ht
      have gt' : (kidL zs n (a + p)).getD t 0 = a + k := by rw [hkk]; simp [ht, et]
      have e1 := lay_plc (t := t) (W := W) (H := H) LZ ht'
      have e2 := lay_plc (t := t) (W := (layR zs n W H a).2.2.1) (H := (layR zs n W H a).2.2.2) LY ht
      rw [gt'] at e1
      rw [gt] at e2
      rw [e1, e2, ih p hp (by omega)]
      exact plc_sh h hv hy ha hm (by omega) ht
end
end Go.Proofs.Ytigniaebokknmaa
