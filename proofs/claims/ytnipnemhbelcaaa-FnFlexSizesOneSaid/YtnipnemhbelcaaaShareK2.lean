/- Bounds on shares. Conditions: a space and weights in their ranges, not all 0. -/
import Derived.Test.YtnipnemhbelcaaaShareK
namespace Go.Proofs.Ytnipnemhbelcaaa

section
variable {a : Int} {ws : List Int}
theorem share_le (ha : 0 ≤ a) (hw : Wts ws) (hs : ws.sum ≠ 0) (i : Nat) : 0 ≤ (shareL a ws).getD i 0 ∧ (shareL a ws).getD i 0 ≤ a := by
  have hl : (shareL a ws).length = ws.length := by
    rw [share_hand ha hw hs]
    have h : ∀ (l : List Nat) (o : List Int), (handL l o).length = o.length := fun l => by
      induction l with
      | nil => intro o; rfl
      | cons b l ih => intro o; have e : handL (b :: l) o = handL l (o.set b (o.getD b 0 + 1)) := rfl
                       rw [e, ih]; simp
    rw [h, baseL_len]
  have h0 : ∀ j, j < ws.length → 0 ≤ (shareL a ws).getD j 0 := fun j hj => by
    rw [share_at ha hw hs j hj]
    have h1 := (hw.at_ j).1
    have h2 := Int.ediv_nonneg (Int.mul_nonneg ha h1) (Int.le_of_lt (sum_pos hw hs))
    split <;> omega
  by_cases hi : i < ws.length
  · refine ⟨h0 i hi, ?_⟩
    have hm : (shareL a ws).getD i 0 ∈ shareL a ws := by
      have hi' : i < (shareL a ws).length := by omega
      have e : (shareL a ws).getD i 0 = (shareL a ws)[i] := by simp [hi']
      rw [e]; exact List.getElem_mem hi'
    have h := mem_le_sum (xs := shareL a ws) (fun z hz => by
      obtain ⟨j, hj, rfl⟩ := List.mem_iff_getElem.1 hz
      have h := h0 j (by omega)
      simpa [hj] using h) hm
    rw [share_sum ha hw hs] at h
    exact h
  · have e : (shareL a ws).getD i 0 = 0 := by
      have : (shareL a ws).length ≤ i := by omega
      simp [this]
    rw [e]; omega
theorem share_sml (ha : 0 ≤ a ∧ a ≤ 200000) (hw : Wts ws) (hs : ws.sum ≠ 0) : Sml (shareL a ws) := fun z hz => by
  obtain ⟨j, hj, rfl⟩ := List.mem_iff_getElem.1 hz
  have h := share_le ha.1 hw hs j
  have e : (shareL a ws).getD j 0 = (shareL a ws)[j] := by simp [hj]
  rw [e] at h
  omega
theorem prod_bd {v T : Int} (hv : 0 ≤ v ∧ v ≤ 200000) (hT : 0 ≤ T ∧ T ≤ 8000000000) : 0 ≤ v * T ∧ v * T ≤ 1600000000000000 := by
  refine ⟨Int.mul_nonneg hv.1 hT.1, ?_⟩
  have h1 : v * T ≤ 200000 * T := Int.mul_le_mul_of_nonneg_right hv.2 hT.1
  omega
end
end Go.Proofs.Ytnipnemhbelcaaa
