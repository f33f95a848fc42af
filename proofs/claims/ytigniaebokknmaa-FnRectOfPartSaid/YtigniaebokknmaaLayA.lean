/- Plain facts on layouts: boxes side by side follow each other with the gap, and so have no common points. No condition. -/
import Derived.Test.YtigniaebokknmaaLayB
import Derived.Test.YtigniaebokknmaaZW
namespace Go.Proofs.Ytigniaebokknmaa
open Go.RowKit

section
variable {n p t s : Nat} {zs : List Int} {W H : Int}
theorem kid_split (ht : t < (kidL zs n p).length) : kidL zs n p = (kidL zs n p).take t ++ (kidL zs n p).getD t 0 :: (kidL zs n p).drop (t + 1) := by
  have h := (List.take_append_drop t (kidL zs n p)).symm
  rw [List.drop_eq_getElem_cons ht] at h
  rw [show (kidL zs n p).getD t 0 = (kidL zs n p)[t] by simp [ht]]
  exact h
theorem lay_plc (hL : Link zs n) (ht : t < (kidL zs n p).length) : layR zs n W H ((kidL zs n p).getD t 0) = (plcL zs n p (layR zs n W H p)).getD t rq0 := by
  have hl : ((kidL zs n p).take t).length = t := by rw [List.length_take]; omega
  rw [lay_kid hL (kid_split ht), hl]
theorem LineP.next {l : List Nat} {g : Nat → Int} {gap sp just : Int} (h : LineP zs l g gap) (hs : 0 ≤ sp ∧ sp ≤ 10000) (hj : 0 ≤ just ∧ just ≤ 3) (ht : t + 1 < l.length) : (ofL g zs l gap sp just).getD t 0 + (szL g zs l gap sp).getD t 0 + gap ≤ (ofL g zs l gap sp just).getD (t + 1) 0 := by
  obtain ⟨hl, s0, hs2⟩ := h.left hs
  have hlen := h.sz_len hs
  have fb := frontL_bd (leftA (szL g zs l gap sp) sp gap) l.length just hl ⟨h.l1, h.l8⟩
  rw [h.of hs hj, offsL_at _ _ _ _ (by omega), offsL_at _ _ _ _ (by omega), offAt_succ]
  have := (fb (t + 1)).1
  omega
theorem par_lt (hv : vtB n zs = true) (ht : t < (kidL zs n p).length) : p < n := by
  obtain ⟨h1, h2, _⟩ := (link_vt hv).kid_in (kid_get ht)
  have h3 := kid_mem.1 (kid_get ht)
  have := (link_vt hv).not_kid h3.1 h3.2
  omega
/-- Boxes directly in a box follow each other with its gap. -/
theorem lay_next (hv : vtB n zs = true) (hW : 0 ≤ W ∧ W ≤ 10000) (hH : 0 ≤ H ∧ H ≤ 10000) (ht : t + 1 < (kidL zs n p).length) :
    (knd zs p = 2 → (layR zs n W H ((kidL zs n p).getD t 0)).1 + (layR zs n W H ((kidL zs n p).getD t 0)).2.2.1 + zs.getD (p * 9 + 5) 0 ≤ (layR zs n W H ((kidL zs n p).getD (t + 1) 0)).1) ∧
    (knd zs p ≠ 2 → (layR zs n W H ((kidL zs n p).getD t 0)).2.1 + (layR zs n W H ((kidL zs n p).getD t 0)).2.2.2 + zs.getD (p * 9 + 5) 0 ≤ (layR zs n W H ((kidL zs n p).getD (t + 1) 0)).2.1) := by
  have hL := link_vt hv
  have hp := par_lt hv ht
  have h0 : kidL zs n p ≠ [] := fun e => by rw [e] at ht; simp at ht
  have hj := just_bd hv hp
  have hb := lay_bd hv hW hH p hp
  have hi := inQ_bd (pad_bd hv hp) hb
  rw [lay_plc (t := t) (W := W) (H := H) hL (by omega), lay_plc (t := t + 1) (W := W) (H := H) hL ht]
  unfold plcL
  refine ⟨fun hk => ?_, fun hk => ?_⟩
  · rw [if_pos hk, lineL_at (by omega), lineL_at ht]
    dsimp only
    have P := kids_in (g := fun j => (natL zs n j).1) hv hp h0 (.inl fun _ => rfl)
    have := P.next hi.2.2.1 hj ht
    omega
  · rw [if_neg hk]
    by_cases hk3 : knd zs p = 3
    · rw [if_pos hk3, lineT_at (by omega), lineT_at ht]
      unfold turnQ
      dsimp only
      have P := kids_in (g := fun j => (natL zs n j).2) hv hp h0 (.inr fun _ => rfl)
      have := P.next hi.2.2.2 hj ht
      omega
    · rw [if_neg hk3, blkL_at (by omega), blkL_at ht]
      dsimp only
      have := topL_succ (g := fun j => (natL zs n j).2) (gap := zs.getD (p * 9 + 5) 0) (l := kidL zs n p) (t := t) (by omega)
      omega
/-- Of two boxes directly in a box, the one ahead ends ahead of the other one's beginning. -/
theorem lay_after (hv : vtB n zs = true) (hW : 0 ≤ W ∧ W ≤ 10000) (hH : 0 ≤ H ∧ H ≤ 10000) : ∀ {d t : Nat}, t + d + 1 < (kidL zs n p).length →
    (knd zs p = 2 → (layR zs n W H ((kidL zs n p).getD t 0)).1 + (layR zs n W H ((kidL zs n p).getD t 0)).2.2.1 ≤ (layR zs n W H ((kidL zs n p).getD (t + d + 1) 0)).1) ∧
    (knd zs p ≠ 2 → (layR zs n W H ((kidL zs n p).getD t 0)).2.1 + (layR zs n W H ((kidL zs n p).getD t 0)).2.2.2 ≤ (layR zs n W H ((kidL zs n p).getD (t + d + 1) 0)).2.1)
  | 0, t, ht => by
    have h1 := lay_next (t := t) hv hW hH (by omega)
    have hg := gap_bd hv (par_lt (p := p) (t := t) hv (by omega))
    rw [Nat.add_zero]
    refine ⟨fun hk => ?_, fun hk => ?_⟩
    · have := h1.1 hk; omega
    · have := h1.2 hk; omega
  | d + 1, t, ht => by
    have h1 := lay_after hv hW hH (d := d) (t := t) (by omega)
    have h2 := lay_next (t := t + d + 1) hv hW hH (by omega)
    have hg := gap_bd hv (par_lt (p := p) (t := t) hv (by omega))
    have hb := lay_bd hv hW hH _ (kid_mem.1 (kid_get (show t + d + 1 < (kidL zs n p).length by omega))).1
    obtain ⟨_, _, b1, b2⟩ := hb
    rw [show t + (d + 1) + 1 = t + d + 1 + 1 by omega]
    refine ⟨fun hk => ?_, fun hk => ?_⟩
    · have := h1.1 hk; have := h2.1 hk; omega
    · have := h1.2 hk; have := h2.2 hk; omega
/-- Two boxes directly in one box. -/
theorem lay_apart {c k : Nat} (hv : vtB n zs = true) (hW : 0 ≤ W ∧ W ≤ 10000) (hH : 0 ≤ H ∧ H ≤ 10000) (hc : par zs c = (p : Int)) (hk : par zs k = (p : Int)) (hck : c < k) (hkn : k < n) :
    (layR zs n W H c).1 + (layR zs n W H c).2.2.1 ≤ (layR zs n W H k).1 ∨ (layR zs n W H c).2.1 + (layR zs n W H c).2.2.2 ≤ (layR zs n W H k).2.1 := by
  have mc : c ∈ kidL zs n p := kid_mem.2 ⟨by omega, hc⟩
  have mk : k ∈ kidL zs n p := kid_mem.2 ⟨hkn, hk⟩
  obtain ⟨i, hi, ei⟩ := List.getElem_of_mem mc
  obtain ⟨j, hj, ej⟩ := List.getElem_of_mem mk
  have gi : (kidL zs n p).getD i 0 = c := by simp [hi, ei]
  have gj : (kidL zs n p).getD j 0 = k := by simp [hj, ej]
  have hij : i < j := by
    have hs := kid_sorted zs n p
    rcases Nat.lt_trichotomy i j with h | h | h
    · exact h
    · subst h; omega
    · have := (List.pairwise_iff_getElem.1 hs) j i hj hi h; omega
  have h := lay_after (p := p) (t := i) (d := j - i - 1) hv hW hH (by omega)
  rw [show i + (j - i - 1) + 1 = j by omega, gi, gj] at h
  by_cases h2 : knd zs p = 2
  · exact .inl (h.1 h2)
  · exact .inr (h.2 h2)
end
end Go.Proofs.Ytigniaebokknmaa
