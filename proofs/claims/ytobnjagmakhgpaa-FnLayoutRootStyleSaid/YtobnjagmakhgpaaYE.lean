/- Parts that belong together: LayC, LayW. Conditions: as each part says. -/
import Derived.Test.YtobnjagmakhgpaaZW
import Derived.Test.YtobnjagmakhgpaaYA
import Derived.Deep.RegionHeld3
/- Plain facts on layouts for their laws: a box's rectangle and the inner rectangle of the box around it. -/
namespace Go.Proofs.Ytobnjagmakhgpaa
open Go.RowKit

theorem inset_in {zs : List Int} {p d : Nat} {q : Rq} (hp : 0 ≤ zs.getD (p * 9 + 4) 0 ∧ zs.getD (p * 9 + 4) 0 ≤ 50) (h : RqB d q) (hd : d ≤ 8) :
    iOk q.1 q.2.1 q.2.2.1 q.2.2.2 (zs.getD (p * 9 + 4) 0) = true ∧ nA q.1 q.2.1 q.2.2.1 q.2.2.2 (zs.getD (p * 9 + 4) 0) = (inQ zs p q).1 ∧ nB q.1 q.2.1 q.2.2.1 q.2.2.2 (zs.getD (p * 9 + 4) 0) = (inQ zs p q).2.1 ∧ nC q.1 q.2.1 q.2.2.1 q.2.2.2 (zs.getD (p * 9 + 4) 0) = (inQ zs p q).2.2.1 ∧ nD q.1 q.2.1 q.2.2.1 q.2.2.2 (zs.getD (p * 9 + 4) 0) = (inQ zs p q).2.2.2 := by
  have hi := inQ_bd hp h
  have h1 := h.vR (by omega)
  have h2 : vR (inQ zs p q).1 (inQ zs p q).2.1 (inQ zs p q).2.2.1 (inQ zs p q).2.2.2 = true := by
    obtain ⟨⟨_, _⟩, ⟨_, _⟩, _, _⟩ := h
    rw [vR_iff]
    omega
  have ok : iOk q.1 q.2.1 q.2.2.1 q.2.2.2 (zs.getD (p * 9 + 4) 0) = true := by
    unfold iOk
    rw [h1, eB_iff.2 hp]
    exact h2
  refine ⟨ok, ?_, ?_, ?_, ?_⟩
  · unfold nA; exact ifB_yes ok _
  · unfold nB; exact ifB_yes ok _
  · unfold nC; exact ifB_yes ok _
  · unfold nD; exact ifB_yes ok _
/-- Across the direction of the box around it, a box has the place and the size of the inner rectangle. -/
theorem lay_cross {n i p : Nat} {zs : List Int} {W H : Int} (hv : vtB n zs = true) (hi : i < n) (e : par zs i = (p : Int)) :
    (knd zs p = 2 → (layR zs n W H i).2.1 = (inQ zs p (layR zs n W H p)).2.1 ∧ (layR zs n W H i).2.2.2 = (inQ zs p (layR zs n W H p)).2.2.2) ∧
    (knd zs p ≠ 2 → (layR zs n W H i).1 = (inQ zs p (layR zs n W H p)).1 ∧ (layR zs n W H i).2.2.1 = (inQ zs p (layR zs n W H p)).2.2.1) := by
  obtain ⟨done, rest, hk⟩ := kid_idx (kid_mem.2 ⟨hi, e⟩)
  have ht : done.length < (kidL zs n p).length := by rw [hk]; simp
  rw [lay_kid (link_vt hv) hk]
  generalize layR zs n W H p = q
  unfold plcL
  by_cases h2 : knd zs p = 2
  · rw [if_pos h2, lineL_at ht]
    exact ⟨fun _ => ⟨rfl, rfl⟩, fun h => absurd h2 h⟩
  · rw [if_neg h2]
    refine ⟨fun h => absurd h h2, fun _ => ?_⟩
    split
    · rw [lineT_at ht]; exact ⟨rfl, rfl⟩
    · rw [blkL_at ht]; exact ⟨rfl, rfl⟩
/-- Both at once, with names for all numbers. -/
theorem lay_across {n i : Nat} {zs : List Int} {W H : Int} (hv : vtB n zs = true) (hW : 0 ≤ W ∧ W ≤ 10000) (hH : 0 ≤ H ∧ H ≤ 10000) (h0 : 0 < i) (hi : i < n) : ∃ (p : Nat) (a0 a1 a2 a3 pd r0 r1 r2 r3 c0 c1 c2 c3 k : Int), zs.getD (i * 9) 0 = (p : Int) ∧ p < i ∧ layR zs n W H p = (a0, a1, a2, a3) ∧ zs.getD (p * 9 + 4) 0 = pd ∧ zs.getD (p * 9 + 1) 0 = k ∧ layR zs n W H i = (c0, c1, c2, c3) ∧ iOk a0 a1 a2 a3 pd = true ∧ nA a0 a1 a2 a3 pd = r0 ∧ nB a0 a1 a2 a3 pd = r1 ∧ nC a0 a1 a2 a3 pd = r2 ∧ nD a0 a1 a2 a3 pd = r3 ∧ (k = 2 ∧ c1 = r1 ∧ c3 = r3 ∨ k ≠ 2 ∧ c0 = r0 ∧ c2 = r2) := by
  obtain ⟨p, e, hp, _⟩ := (link_vt hv).up i h0 hi
  have hb := lay_bd hv hW hH p (by omega)
  obtain ⟨h1, h2, h3, h4, h5⟩ := inset_in (pad_bd hv (show p < n by omega)) hb (by have := dep_le5 hv (show p < n by omega); omega)
  obtain ⟨k1, k2⟩ := lay_cross (W := W) (H := H) hv hi e
  refine ⟨p, _, _, _, _, _, _, _, _, _, _, _, _, _, _, e, hp, rfl, rfl, rfl, rfl, h1, h2, h3, h4, h5, ?_⟩
  by_cases hk : knd zs p = 2
  · exact Or.inl ⟨hk, k1 hk⟩
  · exact Or.inr ⟨hk, k2 hk⟩
end Go.Proofs.Ytobnjagmakhgpaa

/- Spilling of the program, walked: the boxes whose hull with the inner rectangle around them is another. Condition: the tree can be read. -/
namespace Go.Proofs.Ytobnjagmakhgpaa
open Go.RowKit

def hulQ (q r : Rq) : Rq := (mn q.1 r.1, mn q.2.1 r.2.1, uW q.1 q.2.2.1 r.1 r.2.2.1, uW q.2.1 q.2.2.2 r.2.1 r.2.2.2)
def splQ (q r : Rq) : Bool := decide (hulQ q r ≠ q)
def splB (zs : List Int) (n : Nat) (W H : Int) (i : Nat) : Bool := splQ (inQ zs (par zs i).toNat (layR zs n W H (par zs i).toNat)) (layR zs n W H i)
def spTo (zs : List Int) (n : Nat) (W H : Int) (k : Nat) : List Int := ((List.range k).filter fun i => decide (0 < i) && splB zs n W H i).map Int.ofNat
def spA (n : Nat) (zs : List Int) (W H : Int) : List Int := if layOk n zs W H = true then spTo zs n W H n else []
theorem spTo_yes {zs : List Int} {n k : Nat} {W H : Int} (h0 : 0 < k) (h : splB zs n W H k = true) : spTo zs n W H (k + 1) = spTo zs n W H k ++ [(k : Int)] := by
  unfold spTo; rw [List.range_succ, List.filter_append]; simp [h0, h]
theorem spTo_no {zs : List Int} {n k : Nat} {W H : Int} (h : splB zs n W H k = false) : spTo zs n W H (k + 1) = spTo zs n W H k := by
  unfold spTo; rw [List.range_succ, List.filter_append]; simp [h]
theorem spTo_one {zs : List Int} {n : Nat} {W H : Int} : spTo zs n W H 1 = [] := by unfold spTo; simp [List.range_succ]
theorem spTo_len {zs : List Int} {n k : Nat} {W H : Int} : (spTo zs n W H k).length ≤ k := by
  unfold spTo
  rw [List.length_map]
  exact Nat.le_trans (List.length_filter_le _ _) (by rw [List.length_range]; exact Nat.le_refl _)
/-- What a round of Spilling reads, with names for all numbers. -/
theorem lay_spl {n i : Nat} {zs : List Int} {W H : Int} (hv : vtB n zs = true) (hW : 0 ≤ W ∧ W ≤ 10000) (hH : 0 ≤ H ∧ H ≤ 10000) (h0 : 0 < i) (hi : i < n) : ∃ (p : Nat) (a0 a1 a2 a3 pd r0 r1 r2 r3 c0 c1 c2 c3 : Int), zs.getD (i * 9) 0 = (p : Int) ∧ p < i ∧ layR zs n W H p = (a0, a1, a2, a3) ∧ zs.getD (p * 9 + 4) 0 = pd ∧ layR zs n W H i = (c0, c1, c2, c3) ∧ vR a0 a1 a2 a3 = true ∧ (0 ≤ pd ∧ pd ≤ 50) ∧ nL a0 a2 pd = r0 ∧ nL a1 a3 pd = r1 ∧ nW a2 pd = r2 ∧ nW a3 pd = r3 ∧ vR r0 r1 r2 r3 = true ∧ vR c0 c1 c2 c3 = true ∧ splB zs n W H i = splQ (r0, r1, r2, r3) (c0, c1, c2, c3) := by
  obtain ⟨p, e, hp, _⟩ := (link_vt hv).up i h0 hi
  have hpn : p < n := by omega
  have hb := lay_bd hv hW hH p hpn
  have hd := dep_le5 hv hpn
  have hpd := pad_bd hv hpn
  have h1 := inQ_bd hpd hb
  have h2 : vR (inQ zs p (layR zs n W H p)).1 (inQ zs p (layR zs n W H p)).2.1 (inQ zs p (layR zs n W H p)).2.2.1 (inQ zs p (layR zs n W H p)).2.2.2 = true := by
    obtain ⟨⟨_, _⟩, ⟨_, _⟩, _, _⟩ := hb
    rw [vR_iff]
    omega
  refine ⟨p, _, _, _, _, _, _, _, _, _, _, _, _, _, e, hp, rfl, rfl, rfl, lay_vR hv hW hH hpn, hpd, rfl, rfl, rfl, rfl, h2, lay_vR hv hW hH hi, ?_⟩
  unfold splB
  rw [show par zs i = (p : Int) from e, Int.toNat_natCast]
  rfl
end Go.Proofs.Ytobnjagmakhgpaa
