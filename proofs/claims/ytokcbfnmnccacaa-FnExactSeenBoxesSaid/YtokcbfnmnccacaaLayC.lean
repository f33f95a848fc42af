/- Plain facts on layouts for their laws: a box's rectangle and the inner rectangle of the box around it. -/
import Derived.Test.YtokcbfnmnccacaaZW
import Derived.Test.YtokcbfnmnccacaaRectG
namespace Go.Proofs.Ytokcbfnmnccacaa
open Go.RowKit

theorem inset_in {zs : List Int} {p d : Nat} {q : Rq} (hp : 0 ≤ zs.getD (p * 9 + 4) 0 ∧ zs.getD (p * 9 + 4) 0 ≤ 50) (h : RqB d q) (hd : d ≤ 8) :
    iOk q.1 q.2.1 q.2.2.1 q.2.2.2 (zs.getD (p * 9 + 4) 0) = true ∧ nA q.1 q.2.1 q.2.2.1 q.2.2.2 (zs.getD (p * 9 + 4) 0) = (inQ zs p q).1 ∧ nB q.1 q.2.1 q.2.2.1 q.2.2.2 (zs.getD (p * 9 + 4) 0) = (inQ zs p q).2.1 ∧ nC q.1 q.2.1 q.2.2.1 q.2.2.2 (zs.getD (p * 9 + 4) 0) = (inQ zs p q).2.2.1 ∧ nD q.1 q.2.1 q.2.2.1 q.2.2.2 (zs.getD (p * 9 + 4) 0) = (inQ zs p q).2.2.2 := by
  have hi := inQ_bd hp h
  have h1 := h.vR (by omega)
  have h2 : vR (inQ zs p q).1 (inQ zs p q).2.1 (inQ zs p q).2.2.1 (inQ zs p q).2.2.2 = true := by
    obtain ⟨⟨_, _⟩, ⟨_, _⟩, _, _⟩ := h
    rw [vR_iff]
    omega
  have ok : iOk q.1 q.2.1 q.2.2.1 q.2.2.2 (zs.getD (p * 9 + 4) 0) = true := by
    unfold iOk
    rw [h1, eB_iff.2 hp]
    exact h2
  refine ⟨ok, ?_, ?_, ?_, ?_⟩
  · unfold nA; exact ifB_yes ok _
  · unfold nB; exact ifB_yes ok _
  · unfold nC; exact ifB_yes ok _
  · unfold nD; exact ifB_yes ok _
/-- Across the direction of the box around it, a box has the place and the size of the inner rectangle. -/
theorem lay_cross {n i p : Nat} {zs : List Int} {W H : Int} (hv : vtB n zs = true) (hi : i < n) (e : par zs i = (p : Int)) :
    (knd zs p = 2 → (layR zs n W H i).2.1 = (inQ zs p (layR zs n W H p)).2.1 ∧ (layR zs n W H i).2.2.2 = (inQ zs p (layR zs n W H p)).2.2.2) ∧
    (knd zs p ≠ 2 → (layR zs n W H i).1 = (inQ zs p (layR zs n W H p)).1 ∧ (layR zs n W H i).2.2.1 = (inQ zs p (layR zs n W H p)).2.2.1) := by
  obtain ⟨done, rest, hk⟩ := kid_idx (kid_mem.2 ⟨hi, e⟩)
  have ht : done.length < (kidL zs n p).length := by rw [hk]; simp
  rw [lay_kid (link_vt hv) hk]
  generalize layR zs n W H p = q
  unfold plcL
  by_cases h2 : knd zs p = 2
  · rw [if_pos h2, lineL_at ht]
    exact ⟨fun _ => ⟨rfl, rfl⟩, fun h => absurd h2 h⟩
  · rw [if_neg h2]
    refine ⟨fun h => absurd h h2, fun _ => ?_⟩
    split
    · rw [lineT_at ht]; exact ⟨rfl, rfl⟩
    · rw [blkL_at ht]; exact ⟨rfl, rfl⟩
/-- Both at once, with names for all numbers. -/
theorem lay_across {n i : Nat} {zs : List Int} {W H : Int} (hv : vtB n zs = true) (hW : 0 ≤ W ∧ W ≤ 10000) (hH : 0 ≤ H ∧ H ≤ 10000) (h0 : 0 < i) (hi : i < n) : ∃ (p : Nat) (a0 a1 a2 a3 pd r0 r1 r2 r3 c0 c1 c2 c3 k : Int), zs.getD (i * 9) 0 = (p : Int) ∧ p < i ∧ layR zs n W H p = (a0, a1, a2, a3) ∧ zs.getD (p * 9 + 4) 0 = pd ∧ zs.getD (p * 9 + 1) 0 = k ∧ layR zs n W H i = (c0, c1, c2, c3) ∧ iOk a0 a1 a2 a3 pd = true ∧ nA a0 a1 a2 a3 pd = r0 ∧ nB a0 a1 a2 a3 pd = r1 ∧ nC a0 a1 a2 a3 pd = r2 ∧ nD a0 a1 a2 a3 pd = r3 ∧ (k = 2 ∧ c1 = r1 ∧ c3 = r3 ∨ k ≠ 2 ∧ c0 = r0 ∧ c2 = r2) := by
  obtain ⟨p, e, hp, _⟩ := (link_vt hv).up i h0 hi
  have hb := lay_bd hv hW hH p (by omega)
  obtain ⟨h1, h2, h3, h4, h5⟩ := inset_in (pad_bd hv (show p < n by omega)) hb (by have := dep_le5 hv (show p < n by omega); omega)
  obtain ⟨k1, k2⟩ := lay_cross (W := W) (H := H) hv hi e
  refine ⟨p, _, _, _, _, _, _, _, _, _, _, _, _, _, _, e, hp, rfl, rfl, rfl, rfl, h1, h2, h3, h4, h5, ?_⟩
  by_cases hk : knd zs p = 2
  · exact Or.inl ⟨hk, k1 hk⟩
  · exact Or.inr ⟨hk, k2 hk⟩
end Go.Proofs.Ytokcbfnmnccacaa
