/- Plain facts on shares: weights three times as large share alike; equal weights share evenly, the greater shares first. Conditions: a space and weights in their ranges, not all 0. -/
import Derived.Test.YtnipnemhbelcaaaShareK2
namespace Go.Proofs.Ytnipnemhbelcaaa

section
variable {a : Int} {ws : List Int}
theorem sum_map3 (ws : List Int) : (ws.map (3 * ·)).sum = 3 * ws.sum := by
  induction ws with
  | nil => rfl
  | cons x xs ih => simp only [List.map_cons, List.sum_cons]; rw [ih]; omega
theorem base3 : baseL a (ws.map (3 * ·)) = baseL a ws := by
  unfold baseL
  rw [sum_map3, List.map_map]
  apply List.map_congr_left
  intro x _
  show a * (3 * x) / (3 * ws.sum) = a * x / ws.sum
  rw [show a * (3 * x) = 3 * (a * x) by rw [← Int.mul_assoc, Int.mul_comm a 3, Int.mul_assoc]]
  exact Int.mul_ediv_mul_of_pos _ _ (by omega)
theorem rest3 : restL a (ws.map (3 * ·)) = (restL a ws).map (3 * ·) := by
  unfold restL
  rw [sum_map3, List.map_map, List.map_map]
  apply List.map_congr_left
  intro x _
  show a * (3 * x) % (3 * ws.sum) = 3 * (a * x % ws.sum)
  rw [show a * (3 * x) = 3 * (a * x) by rw [← Int.mul_assoc, Int.mul_comm a 3, Int.mul_assoc]]
  exact Int.mul_emod_mul_of_pos _ _ (by omega)
theorem getD_map3 (r : List Int) (i : Nat) : (r.map (3 * ·)).getD i 0 = 3 * r.getD i 0 := by
  by_cases h : i < r.length
  · simp [h]
  · simp [Nat.le_of_not_lt h]
theorem share_scale (ha : 0 ≤ a) (hw : Wts ws) : shareL a (ws.map (3 * ·)) = shareL a ws := by
  by_cases hs : ws.sum = 0
  · unfold shareL
    rw [if_pos hs, if_pos (by rw [sum_map3]; omega)]
    simp
  · rw [share_hand ha hw hs]
    unfold shareL firstL
    rw [if_neg (by rw [sum_map3]; omega)]
    have e : leftL a (ws.map (3 * ·)) = leftL a ws := by unfold leftL; rw [base3]
    rw [e, base3, rest3]
    have h := spin_order (turnsL (restL a ws)) (baseL a ws) ((restL a ws).map (3 * ·)) ((turnsL_front (restL a ws)).imp fun {p q} hf => by
        unfold Front at hf ⊢
        rw [getD_map3, getD_map3]
        omega)
      (fun i hi => (turnsL_perm (restL a ws)).mem_iff.2 (by simpa using hi))
      (fun i hi => by have := (turnsL_perm (restL a ws)).mem_iff.1 hi; simpa using this)
      (fun i hi => by
        rw [getD_map3]
        have := rest_bd (a := a) hw hs i (by simpa [restL_len] using hi)
        omega)
      (leftL a ws).toNat (by
        have h1 := left_le a ws hw hs
        rw [turnsL_len, restL_len]
        omega)
    rw [h]
end
/-- The weights are all one. -/
def onesL (n : Nat) : List Int := List.replicate n 1
theorem ones_sum (n : Nat) : (onesL n).sum = (n : Int) := by unfold onesL; simp
theorem ones_wts (n : Nat) : Wts (onesL n) := fun z hz => by rw [List.eq_of_mem_replicate hz]; omega
theorem ones_at (n i : Nat) (h : i < n) : (onesL n).getD i 0 = 1 := by unfold onesL; simp [h]
theorem ones_len (n : Nat) : (onesL n).length = n := by unfold onesL; simp
section
variable {a : Int} {n : Nat}
theorem even_at (ha : 0 ≤ a) (hn : 0 < n) (i : Nat) (hi : i < n) : (shareL a (onesL n)).getD i 0 = a / (n : Int) + if i ∈ firstL a (onesL n) then 1 else 0 := by
  have h := share_at ha (ones_wts n) (by rw [ones_sum]; omega) i (by rw [ones_len]; exact hi)
  rw [ones_at n i hi, ones_sum, Int.mul_one] at h
  exact h
theorem even_next (ha : 0 ≤ a) (hn : 0 < n) (i : Nat) (hi : i + 1 < n) : (shareL a (onesL n)).getD (i + 1) 0 ≤ (shareL a (onesL n)).getD i 0 := by
  rw [even_at ha hn (i + 1) hi, even_at ha hn i (by omega)]
  by_cases h1 : i + 1 ∈ firstL a (onesL n)
  · by_cases h2 : i ∈ firstL a (onesL n)
    · rw [if_pos h1, if_pos h2]; omega
    · exfalso
      have hf := firstL_front i (i + 1) (by rw [ones_len]; omega) h2 h1
      unfold Front at hf
      rw [restL_at _ _ _ (by rw [ones_len]; omega), restL_at _ _ _ (by rw [ones_len]; omega), ones_at n _ (by omega), ones_at n _ (by omega)] at hf
      omega
  · rw [if_neg h1]
    split <;> omega
theorem even_near (ha : 0 ≤ a) (hn : 0 < n) (i : Nat) (hi : i < n) : (shareL a (onesL n)).getD 0 0 - (shareL a (onesL n)).getD i 0 ≤ 1 := by
  rw [even_at ha hn i hi, even_at ha hn 0 hn]
  split <;> split <;> omega
theorem even_sum (ha : 0 ≤ a) (hn : 0 < n) : (shareL a (onesL n)).sum = a := share_sum ha (ones_wts n) (by rw [ones_sum]; omega)
end
end Go.Proofs.Ytnipnemhbelcaaa
