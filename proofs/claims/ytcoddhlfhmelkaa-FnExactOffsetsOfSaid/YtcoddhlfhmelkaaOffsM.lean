/- Plain facts on offsets: where sizes begin, from what is in front of each; the same as the reference's running place. No condition. -/
import Derived.Test.YtcoddhlfhmelkaaSpare
namespace Go.Proofs.Ytcoddhlfhmelkaa
open Go.RowKit

/-- The end of the sizes before place k, with a gap. -/
def endAt (gap : Int) (fr sz : List Int) : Nat → Int
  | 0 => 0
  | k + 1 => fr.getD k 0 + endAt gap fr sz k + sz.getD k 0 + gap
def offAt (gap : Int) (fr sz : List Int) (k : Nat) : Int := fr.getD k 0 + endAt gap fr sz k
def offsL (gap : Int) (fr sz : List Int) : List Int := (List.range sz.length).map (offAt gap fr sz)
theorem offsL_len (gap : Int) (fr sz : List Int) : (offsL gap fr sz).length = sz.length := by simp [offsL]
theorem offsL_at (gap : Int) (fr sz : List Int) (k : Nat) (h : k < sz.length) : (offsL gap fr sz).getD k 0 = offAt gap fr sz k := by simp [offsL, h]
theorem endAt_succ (gap : Int) (fr sz : List Int) (k : Nat) : endAt gap fr sz (k + 1) = offAt gap fr sz k + sz.getD k 0 + gap := rfl
theorem offAt_succ (gap : Int) (fr sz : List Int) (k : Nat) : offAt gap fr sz (k + 1) = offAt gap fr sz k + sz.getD k 0 + gap + fr.getD (k + 1) 0 := by
  show fr.getD (k + 1) 0 + endAt gap fr sz (k + 1) = _
  rw [endAt_succ]; omega
theorem end_bd (gap : Int) (fr sz : List Int) (hg : 0 ≤ gap ∧ gap ≤ 50) (hf : ∀ i, 0 ≤ fr.getD i 0 ∧ fr.getD i 0 ≤ 200001) (hs : ∀ i, 0 ≤ sz.getD i 0 ∧ sz.getD i 0 ≤ 10000) (k : Nat) : 0 ≤ endAt gap fr sz k ∧ endAt gap fr sz k ≤ 220000 * (k : Int) := by
  induction k with
  | zero => exact ⟨Int.le_refl _, by simp [endAt]⟩
  | succ k ih =>
    have h1 := hf k
    have h2 := hs k
    have e : endAt gap fr sz (k + 1) = fr.getD k 0 + endAt gap fr sz k + sz.getD k 0 + gap := rfl
    rw [e]
    omega
/-- The first k places are where sizes begin; the others are still what is in front. -/
def offTo (gap : Int) (fr sz : List Int) (k : Nat) : List Int := (offsL gap fr sz).take k ++ fr.drop k
theorem offTo_zero (gap : Int) (fr sz : List Int) : offTo gap fr sz 0 = fr := by simp [offTo]
theorem offTo_len (gap : Int) (fr sz : List Int) (k : Nat) (h : fr.length = sz.length) (hk : k ≤ sz.length) : (offTo gap fr sz k).length = sz.length := by
  unfold offTo
  rw [List.length_append, List.length_take, List.length_drop, offsL_len]
  omega
theorem offTo_all (gap : Int) (fr sz : List Int) (h : fr.length = sz.length) : offTo gap fr sz sz.length = offsL gap fr sz := by
  unfold offTo
  rw [List.take_of_length_le (by rw [offsL_len]; exact Nat.le_refl _), List.drop_of_length_le (by omega)]
  simp
theorem offTo_at (gap : Int) (fr sz : List Int) (k : Nat) (hk : k < sz.length) : (offTo gap fr sz k).getD k 0 = fr.getD k 0 := by
  unfold offTo
  have hl : ((offsL gap fr sz).take k).length = k := by rw [List.length_take, offsL_len]; omega
  simp [List.getElem?_append_right (show ((offsL gap fr sz).take k).length ≤ k by omega), hl]
theorem offTo_step (gap : Int) (fr sz : List Int) (k : Nat) (h : fr.length = sz.length) (hk : k < sz.length) : (offTo gap fr sz k).set k (offAt gap fr sz k) = offTo gap fr sz (k + 1) := by
  unfold offTo
  have hl : ((offsL gap fr sz).take k).length = k := by rw [List.length_take, offsL_len]; omega
  rw [take_snoc_i (by rw [offsL_len]; exact hk), offsL_at _ _ _ _ hk, List.set_append_right _ _ (by omega), hl, Nat.sub_self]
  have e : fr.drop k = fr[k] :: fr.drop (k + 1) := List.drop_eq_getElem_cons (by omega)
  rw [e, List.append_assoc]
  rfl
/-- What is left of a space. -/
def leftA (sz : List Int) (space gap : Int) : Int := mx 0 (space - sz.sum - gap * ((sz.length : Int) - 1))
def ofOk (sz : List Int) (space gap j : Int) : Bool := rowB 10000 sz && decide (0 ≤ space ∧ space ≤ 200000) && decide (0 ≤ gap ∧ gap ≤ 50) && decide (0 ≤ j ∧ j ≤ 3)
/-- Where sizes begin, or nothing for arguments that are not valid. -/
def offsA (sz : List Int) (space gap j : Int) : List Int := if ofOk sz space gap j = true then offsL gap (frontL (leftA sz space gap) sz.length j) sz else []
theorem leftA_bd (sz : List Int) (space gap : Int) (h0 : 0 ≤ sz.sum) (hs : 0 ≤ space ∧ space ≤ 200000) (hg : 0 ≤ gap * ((sz.length : Int) - 1)) : 0 ≤ leftA sz space gap ∧ leftA sz space gap ≤ 200000 := by
  unfold leftA mx
  omega
theorem set_bd {xs : List Int} {k : Nat} {v M : Int} (h : ∀ i, 0 ≤ xs.getD i 0 ∧ xs.getD i 0 ≤ M) (hv : 0 ≤ v ∧ v ≤ M) : ∀ i, 0 ≤ (xs.set k v).getD i 0 ∧ (xs.set k v).getD i 0 ≤ M := fun i => by
  by_cases hi : i < xs.length
  · rw [getD_set _ _ _ _ hi]
    split
    · exact hv
    · exact h i
  · have e : (xs.set k v).getD i 0 = 0 := by
      rw [List.getD_eq_getElem?_getD, List.getElem?_eq_none (by simp; omega)]
      rfl
    rw [e]
    omega
theorem zero_at (n i : Nat) : (List.replicate n (0 : Int)).getD i 0 = 0 := by
  by_cases h : i < n
  · simp [h]
  · simp [Nat.le_of_not_lt h]
theorem frontL_len (s : Int) (n : Nat) (j : Int) (hs : 0 ≤ s ∧ s ≤ 200000) (hn : 1 ≤ n ∧ n ≤ 8) : (frontL s n j).length = n := by
  unfold frontL
  split
  · simp
  split
  · simp
  split
  · rw [length_splice _ _ _ (by rw [shareA_ones s n hs hn.2, List.length_replicate]; omega), List.length_replicate]
  · simp
theorem shareA_bd (s : Int) (n : Nat) (hs : 0 ≤ s ∧ s ≤ 200000) : ∀ i, 0 ≤ (shareA s (onesL n)).getD i 0 ∧ (shareA s (onesL n)).getD i 0 ≤ 200000 := fun i => by
  unfold shareA
  split
  · next ok =>
    unfold shOk at ok
    rw [Bool.and_eq_true] at ok
    have h := rowB_len ok.2
    rw [ones_len] at h
    have := share_le hs.1 (ones_wts n) (by rw [ones_sum]; omega) i
    omega
  · simp
theorem frontL_three (s : Int) (n : Nat) (hs : 0 ≤ s ∧ s ≤ 200000) (hn : 1 ≤ n ∧ n ≤ 8) : frontL s n 3 = 0 :: shareA s (onesL (n - 1)) := by
  unfold frontL
  rw [if_neg (by omega), if_neg (by omega), if_pos rfl]
  unfold splice
  rw [List.drop_of_length_le (by rw [shareA_ones s n hs hn.2, List.length_replicate]; omega)]
  obtain ⟨k, rfl⟩ : ∃ k, n = k + 1 := ⟨n - 1, by omega⟩
  simp [List.replicate_succ]
theorem frontL_bd (s : Int) (n : Nat) (j : Int) (hs : 0 ≤ s ∧ s ≤ 200000) (hn : 1 ≤ n ∧ n ≤ 8) : ∀ i, 0 ≤ (frontL s n j).getD i 0 ∧ (frontL s n j).getD i 0 ≤ 200001 := fun i => by
  have hz : ∀ i, 0 ≤ (List.replicate n (0 : Int)).getD i 0 ∧ (List.replicate n (0 : Int)).getD i 0 ≤ 200001 := fun i => by rw [zero_at]; omega
  by_cases h3 : j = 3
  · subst h3
    rw [frontL_three s n hs hn]
    cases i with
    | zero => simp
    | succ i =>
      have := shareA_bd s (n - 1) hs i
      simp only [List.getD_cons_succ]
      omega
  · unfold frontL
    split
    · exact set_bd hz (by omega) i
    split
    · exact set_bd hz (by omega) i
    exact hz i
end Go.Proofs.Ytcoddhlfhmelkaa
