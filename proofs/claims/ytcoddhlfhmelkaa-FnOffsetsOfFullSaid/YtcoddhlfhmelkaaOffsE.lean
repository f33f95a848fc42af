/- Plain facts on offsets: where the last size ends, and that nothing left makes one order. No condition. -/
import Derived.Test.YtcoddhlfhmelkaaOffsM
namespace Go.Proofs.Ytcoddhlfhmelkaa
open Go.RowKit

theorem end_sum (gap : Int) (fr sz : List Int) (k : Nat) (hf : k ≤ fr.length) (hs : k ≤ sz.length) : endAt gap fr sz k = (fr.take k).sum + (sz.take k).sum + gap * (k : Int) := by
  induction k with
  | zero => simp [endAt]
  | succ k ih =>
    have e : endAt gap fr sz (k + 1) = fr.getD k 0 + endAt gap fr sz k + sz.getD k 0 + gap := rfl
    rw [e, ih (by omega) (by omega), sum_snoc (by omega), sum_snoc (by omega)]
    have e2 : gap * ((k + 1 : Nat) : Int) = gap * (k : Int) + gap := by rw [Int.natCast_add, Int.mul_add]; simp
    rw [e2]
    omega
theorem last_end (gap : Int) (fr sz : List Int) (k : Nat) (hf : fr.length = k + 1) (hs : sz.length = k + 1) : offAt gap fr sz k + sz.getD k 0 = fr.sum + sz.sum + gap * (k : Int) := by
  have h1 : fr.sum = (fr.take k).sum + fr.getD k 0 := by
    have h := sum_snoc (zs := fr) (k := k) (by omega)
    rw [List.take_of_length_le (by omega)] at h
    exact h
  have h2 : sz.sum = (sz.take k).sum + sz.getD k 0 := by
    have h := sum_snoc (zs := sz) (k := k) (by omega)
    rw [List.take_of_length_le (by omega)] at h
    exact h
  unfold offAt
  rw [end_sum gap fr sz k (by omega) (by omega), h1, h2]
  omega
theorem sum_le8 {xs : List Int} {M : Int} (h : ∀ z ∈ xs, z ≤ M) : xs.sum ≤ (xs.length : Int) * M := by
  induction xs with
  | nil => simp
  | cons x xs ih =>
    have h1 := h x (by simp)
    have h2 := ih fun z hz => h z (by simp [hz])
    have e : ((xs.length + 1 : Nat) : Int) * M = (xs.length : Int) * M + M := by rw [Int.natCast_add, Int.add_mul]; simp
    simp only [List.sum_cons, List.length_cons]
    omega
theorem zero_sum (n : Nat) : (List.replicate n (0 : Int)).sum = 0 := by simp
theorem set0_sum (n : Nat) (v : Int) (hn : 1 ≤ n) : ((List.replicate n (0 : Int)).set 0 v).sum = v := by
  obtain ⟨k, rfl⟩ : ∃ k, n = k + 1 := ⟨n - 1, by omega⟩
  simp [List.replicate_succ]
theorem frontL_sum (s : Int) (n : Nat) (j : Int) (hs : 0 ≤ s ∧ s ≤ 200000) (hn : 1 ≤ n ∧ n ≤ 8) :
    (frontL s n j).sum = if j = 1 then s else if j = 2 then s / 2 else if j = 3 ∧ 2 ≤ n then s else 0 := by
  by_cases h1 : j = 1
  · subst h1
    unfold frontL
    rw [if_pos rfl, if_pos rfl, set0_sum n s hn.1]
  by_cases h2 : j = 2
  · subst h2
    unfold frontL
    rw [if_neg (by omega), if_pos rfl, if_neg (by omega), if_pos rfl, set0_sum n _ hn.1]
  rw [if_neg h1, if_neg h2]
  by_cases h3 : j = 3
  · subst h3
    rw [frontL_three s n hs hn, List.sum_cons]
    by_cases h4 : 2 ≤ n
    · rw [if_pos ⟨rfl, h4⟩]
      have ok : shOk s (onesL (n - 1)) = true := by
        unfold shOk
        rw [Bool.and_eq_true, decide_eq_true_eq]
        exact ⟨hs, rowB_iff.2 ⟨by rw [ones_len]; omega, ones_wts _⟩⟩
      unfold shareA
      rw [if_pos ok, even_sum hs.1 (by omega)]
      omega
    · rw [if_neg (fun h => h4 h.2)]
      have e := shareA_ones s n hs hn.2
      have e2 : shareA s (onesL (n - 1)) = [] := List.eq_nil_of_length_eq_zero (by omega)
      rw [e2]
      simp
  · rw [if_neg (fun h => h3 h.1)]
    unfold frontL
    rw [if_neg h1, if_neg h2, if_neg h3, zero_sum]
theorem frontL_first (s : Int) (n : Nat) (j : Int) (hs : 0 ≤ s ∧ s ≤ 200000) (hn : 1 ≤ n ∧ n ≤ 8) : (frontL s n j).getD 0 0 = if j = 1 then s else if j = 2 then s / 2 else 0 := by
  by_cases h1 : j = 1
  · subst h1
    unfold frontL
    rw [if_pos rfl, if_pos rfl, getD_set _ _ _ _ (by simp; omega), if_pos rfl]
  by_cases h2 : j = 2
  · subst h2
    unfold frontL
    rw [if_neg (by omega), if_pos rfl, if_neg (by omega), if_pos rfl, getD_set _ _ _ _ (by simp; omega), if_pos rfl]
  rw [if_neg h1, if_neg h2]
  by_cases h3 : j = 3
  · subst h3
    rw [frontL_three s n hs hn]
    rfl
  · unfold frontL
    rw [if_neg h1, if_neg h2, if_neg h3, zero_at]
theorem frontL_none (n : Nat) (j : Int) (hn : 1 ≤ n ∧ n ≤ 8) : frontL 0 n j = List.replicate n 0 := by
  have hz : (List.replicate n (0 : Int)).set 0 0 = List.replicate n 0 := by
    obtain ⟨k, rfl⟩ : ∃ k, n = k + 1 := ⟨n - 1, by omega⟩
    simp [List.replicate_succ]
  by_cases h3 : j = 3
  · subst h3
    rw [frontL_three 0 n (by omega) hn]
    have hl := shareA_ones 0 n (by omega) hn.2
    have e : shareA 0 (onesL (n - 1)) = List.replicate (n - 1) 0 := by
      apply List.eq_replicate_iff.2
      refine ⟨hl, fun b hb => ?_⟩
      obtain ⟨i, hi, rfl⟩ := List.mem_iff_getElem.1 hb
      have e : (shareA 0 (onesL (n - 1))).getD i 0 = (shareA 0 (onesL (n - 1)))[i] := by simp [hi]
      rw [← e]
      unfold shareA
      split
      · next ok =>
        unfold shOk at ok
        rw [Bool.and_eq_true] at ok
        have h := rowB_len ok.2
        rw [ones_len] at h
        have := share_le (a := 0) (by omega) (ones_wts (n - 1)) (by rw [ones_sum]; omega) i
        omega
      · simp
    rw [e]
    obtain ⟨k, rfl⟩ : ∃ k, n = k + 1 := ⟨n - 1, by omega⟩
    simp [List.replicate_succ]
  · unfold frontL
    split
    · exact hz
    split
    · rw [show (0 : Int) / 2 = 0 from rfl]; exact hz
    rfl
end Go.Proofs.Ytcoddhlfhmelkaa
