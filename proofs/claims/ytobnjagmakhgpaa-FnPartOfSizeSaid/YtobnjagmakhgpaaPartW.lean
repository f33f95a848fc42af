/- Plain facts on parts of parts: a part of a part is the part of the tree. No condition. -/
import Derived.Test.YtobnjagmakhgpaaPartV
namespace Go.Proofs.Ytobnjagmakhgpaa
open Go.RowKit

section
variable {zs : List Int} {a m n i k : Nat}
/-- The numbers of a part. -/
theorem partL_get (hz : zs.length = n * 9) (ha : a + m ≤ n) (hi : i < m * 9) : (partL zs a m).getD i 0 = if 0 = i then -1 else if i % 9 = 0 then zs.getD (a * 9 + i) 0 - (a : Int) else zs.getD (a * 9 + i) 0 := by
  have hl := midL_len (zs := zs) (a := a) (m := m) hz ha
  unfold partL
  rw [getD_set _ _ _ _ (by rw [parF_len, hl]; exact hi), parF_at (by rw [hl]; exact hi), midL_at hi]
/-- Where the boxes of a box in a part end. -/
theorem part_en (hv : vtB n zs = true) (hz : zs.length = n * 9) (ha : a < n) (hk : k < en zs n a - a) :
    en (partL zs a (en zs n a - a)) (en zs n a - a) k + a = en zs n (a + k) ∧ en zs n (a + k) ≤ en zs n a := by
  have eb := en_bd (zs := zs) ha
  obtain ⟨M, hM⟩ : ∃ M, en zs n a - a = M := ⟨_, rfl⟩
  have S := part_shift hv hz ha
  have V := part_valid hv hz ha
  rw [part_at hv ha] at V
  rw [hM] at S V hk ⊢
  have e1 := en_bd (zs := partL zs a M) hk
  have e2 := en_bd (zs := zs) (show a + k < n by omega)
  have LZ := link_vt hv; have LY := link_vt V
  have hak : anc zs a (a + k) = true := (LZ.in_iff ha (by omega)).2 ⟨by omega, by omega⟩
  have hle : en zs n (a + k) ≤ en zs n a := by
    by_cases h : en zs n (a + k) ≤ en zs n a
    · exact h
    · have h1 : anc zs (a + k) (en zs n a) = true := (LZ.in_iff (by omega) (by omega)).2 ⟨by omega, by omega⟩
      have h2 := (LZ.in_iff ha (by omega)).1 (anc_trans hak h1)
      omega
  refine ⟨?_, hle⟩
  rcases Nat.lt_trichotomy (en (partL zs a M) M k + a) (en zs n (a + k)) with h | h | h
  · have h1 : anc zs (a + k) (a + en (partL zs a M) M k) = true := (LZ.in_iff (by omega) (by omega)).2 ⟨by omega, by omega⟩
    rw [← S.anc hk (by omega)] at h1
    have h2 := (LY.in_iff hk (by omega)).1 h1
    omega
  · exact h
  · have h1 : anc (partL zs a M) k (en zs n (a + k) - a) = true := (LY.in_iff hk (by omega)).2 ⟨by omega, by omega⟩
    rw [S.anc hk (by omega), show a + (en zs n (a + k) - a) = en zs n (a + k) by omega] at h1
    have h2 := (LZ.in_iff (by omega) (by omega)).1 h1
    omega
theorem part_part (hv : vtB n zs = true) (hz : zs.length = n * 9) (ha : a < n) (hk : k < en zs n a - a) :
    partA (en zs n a - a) (partA n zs (a : Int)) (k : Int) = partA n zs ((a + k : Nat) : Int) := by
  have eb := en_bd (zs := zs) ha
  obtain ⟨e1, e2⟩ := part_en hv hz ha hk
  have V := part_valid hv hz ha
  rw [part_at (zs := partA n zs (a : Int)) V hk, part_at hv (show a + k < n by omega), part_at hv ha]
  obtain ⟨M, hM⟩ : ∃ M, en zs n a - a = M := ⟨_, rfl⟩
  rw [hM] at e1 hk ⊢
  have e3 := en_bd (zs := partL zs a M) hk
  have e4 : en (partL zs a M) M k - k = en zs n (a + k) - (a + k) := by omega
  rw [e4]
  obtain ⟨m2, hm2⟩ : ∃ m2, en zs n (a + k) - (a + k) = m2 := ⟨_, rfl⟩
  rw [hm2]
  have hl := partL_len (zs := zs) (a := a) (m := M) hz (by omega)
  apply ext_get
  · rw [partL_len hl (by omega), partL_len hz (by omega)]
  · intro i hi
    rw [partL_len hl (by omega)] at hi
    rw [partL_get hl (by omega) hi, partL_get hz (by omega) hi]
    by_cases h0 : 0 = i
    · rw [if_pos h0, if_pos h0]
    · rw [if_neg h0, if_neg h0, partL_get (a := a) (m := M) (i := k * 9 + i) hz (by omega) (by omega), if_neg (show ¬ (0 = k * 9 + i) by omega), show a * 9 + (k * 9 + i) = (a + k) * 9 + i by omega]
      by_cases h9 : i % 9 = 0
      · rw [if_pos (show (k * 9 + i) % 9 = 0 by omega), if_pos h9, if_pos h9]; omega
      · rw [if_neg (show ¬ ((k * 9 + i) % 9 = 0) by omega), if_neg h9, if_neg h9]
end
end Go.Proofs.Ytobnjagmakhgpaa
