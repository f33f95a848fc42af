/- Plain facts on spans of tracks, one behind another. No condition. -/
import Derived.Test.YtcoddhlfhmelkaaSpnM
namespace Go.Proofs.Ytcoddhlfhmelkaa
open Go.RowKit

theorem gdDrop (xs : List Int) (m k : Nat) : (xs.drop m).getD k 0 = xs.getD (m + k) 0 := by simp [List.getD_eq_getElem?_getD, List.getElem?_drop]
section
variable {xs : List Int} {gap f m : Int}
theorem spA_eq (h : spOk xs f m = true) : spA xs gap f m = (xs.take f.toNat).sum + gap * f := if_pos h
theorem spS_eq (h : spOk xs f m = true) : spS xs gap f m = ((xs.drop f.toNat).take m.toNat).sum + gap * (m - 1) := if_pos h
theorem spA_no (h : spOk xs f m = false) : spA xs gap f m = 0 := if_neg (by rw [h]; simp)
theorem spS_no (h : spOk xs f m = false) : spS xs gap f m = 0 := if_neg (by rw [h]; simp)
/-- A track more. -/
theorem sp_more (h : spOk xs f m = true) (h2 : spOk xs f (m + 1) = true) : spA xs gap f (m + 1) = spA xs gap f m ∧ spS xs gap f (m + 1) = spS xs gap f m + gap + xs.getD (f + m).toNat 0 := by
  obtain ⟨⟨f0, f1⟩, m0, m1⟩ := spOk_iff.1 h
  obtain ⟨_, m2, m3⟩ := spOk_iff.1 h2
  rw [spA_eq h, spA_eq h2, spS_eq h, spS_eq h2]
  obtain ⟨i, rfl⟩ := Int.eq_ofNat_of_zero_le f0
  obtain ⟨j, rfl⟩ := Int.eq_ofNat_of_zero_le (show 0 ≤ m by omega)
  refine ⟨rfl, ?_⟩
  rw [show ((j : Int) + 1).toNat = j + 1 by omega, show ((i : Int) + (j : Int)).toNat = i + j by omega, Int.toNat_natCast, Int.toNat_natCast, sum_snoc (by rw [List.length_drop]; omega), gdDrop,
    show (j : Int) + 1 - 1 = ((j : Int) - 1) + 1 by omega, Int.mul_add gap ((j : Int) - 1) 1, Int.mul_one]
  omega
/-- The next track. -/
theorem sp_next (h : spOk xs f m = true) (h2 : spOk xs (f + m) 1 = true) : spA xs gap (f + m) 1 = spA xs gap f m + spS xs gap f m + gap := by
  obtain ⟨⟨f0, f1⟩, m0, m1⟩ := spOk_iff.1 h
  rw [spA_eq h, spA_eq h2, spS_eq h]
  obtain ⟨i, rfl⟩ := Int.eq_ofNat_of_zero_le f0
  obtain ⟨j, rfl⟩ := Int.eq_ofNat_of_zero_le (show 0 ≤ m by omega)
  rw [show ((i : Int) + (j : Int)).toNat = i + j by omega, Int.toNat_natCast, Int.toNat_natCast, take_sum_add, Int.mul_add, Int.mul_sub, Int.mul_one]
  omega
theorem sp_first (h : 0 < xs.length) : spOk xs 0 1 = true ∧ spA xs gap 0 1 = 0 := by
  have h2 : spOk xs 0 1 = true := spOk_iff.2 ⟨by omega, by omega⟩
  refine ⟨h2, ?_⟩
  rw [spA_eq h2]
  simp
theorem sp_all (h : 0 < xs.length) : spOk xs 0 (xs.length : Int) = true ∧ spA xs gap 0 (xs.length : Int) = 0 ∧ spS xs gap 0 (xs.length : Int) = xs.sum + gap * ((xs.length : Int) - 1) := by
  have h2 : spOk xs 0 (xs.length : Int) = true := spOk_iff.2 ⟨by omega, by omega⟩
  refine ⟨h2, ?_, ?_⟩
  · rw [spA_eq h2]; simp
  · rw [spS_eq h2]; simp
theorem drop_bd (hb : ∀ i, 0 ≤ xs.getD i 0 ∧ xs.getD i 0 ≤ 210000) (k : Nat) : 0 ≤ (xs.drop k).sum := by
  refine sum_nonneg fun z hz => ?_
  obtain ⟨i, hi, rfl⟩ := List.getElem_of_mem (List.mem_of_mem_drop hz)
  have := (hb i).1
  rw [show xs.getD i 0 = xs[i] by simp [hi]] at this
  exact this
theorem sp_in (hb : ∀ i, 0 ≤ xs.getD i 0 ∧ xs.getD i 0 ≤ 210000) (hg : 0 ≤ gap) (h : spOk xs f m = true) : spA xs gap f m + spS xs gap f m ≤ xs.sum + gap * ((xs.length : Int) - 1) := by
  obtain ⟨⟨f0, f1⟩, m0, m1⟩ := spOk_iff.1 h
  rw [spA_eq h, spS_eq h]
  obtain ⟨i, rfl⟩ := Int.eq_ofNat_of_zero_le f0
  obtain ⟨j, rfl⟩ := Int.eq_ofNat_of_zero_le (show 0 ≤ m by omega)
  rw [Int.toNat_natCast, Int.toNat_natCast]
  have e := take_sum_add xs i j
  have e2 : xs.sum = (xs.take (i + j)).sum + (xs.drop (i + j)).sum := by rw [← List.sum_append, List.take_append_drop]
  have e3 := drop_bd hb (i + j)
  have e4 : gap * ((i : Int) + ((j : Int) - 1)) ≤ gap * ((xs.length : Int) - 1) := Int.mul_le_mul_of_nonneg_left (by omega) hg
  rw [Int.mul_add] at e4
  omega
theorem sp_bd (hb : ∀ i, 0 ≤ xs.getD i 0 ∧ xs.getD i 0 ≤ 210000) (hl : xs.length ≤ 8) (hg : 0 ≤ gap ∧ gap ≤ 50) (h : spOk xs f m = true) : (0 ≤ spA xs gap f m ∧ spA xs gap f m ≤ 10000000) ∧ (0 ≤ spS xs gap f m ∧ spS xs gap f m ≤ 10000000) := by
  have hi := sp_in hb hg.1 h
  obtain ⟨⟨f0, f1⟩, m0, m1⟩ := spOk_iff.1 h
  have s := sum_bd2 hb xs.length
  rw [List.take_of_length_le (Nat.le_refl _)] at s
  have g1 := gapp_bd (g := gap) (n := (xs.length : Int) - 1) hg (by omega)
  have g2 := gapp_bd (g := gap) (n := f) hg (by omega)
  have g3 := gapp_bd (g := gap) (n := m - 1) hg (by omega)
  have t := sum_bd2 hb f.toNat
  have d : 0 ≤ ((xs.drop f.toNat).take m.toNat).sum := sum_nonneg fun z hz => by
    obtain ⟨i, hi, rfl⟩ := List.getElem_of_mem (List.mem_of_mem_drop (List.mem_of_mem_take hz))
    have := (hb i).1
    rw [show xs.getD i 0 = xs[i] by simp [hi]] at this
    exact this
  rw [spA_eq h, spS_eq h] at hi ⊢
  omega
end
end Go.Proofs.Ytcoddhlfhmelkaa
