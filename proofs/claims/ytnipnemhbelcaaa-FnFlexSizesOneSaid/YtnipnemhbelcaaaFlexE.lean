/- Plain facts on flexible sizes for the laws: who has a bound to reach, what is left, and that more space makes the sizes no smaller together. No condition. -/
import Derived.Test.YtnipnemhbelcaaaFlexZ
namespace Go.Proofs.Ytnipnemhbelcaaa
open Go.RowKit
theorem wrapEq64 (x : Int) : IntKind.i64.wrap x = wrap64 x := by unfold wrap64; rw [IntKind.wrap_i64]
section
variable {n : Nat} {wt rooms : List Int} {a : Int}
theorem Rm.fin_still (h : Rm n wt rooms a) : ∃ a', Rm n wt (finL wt rooms a) a' ∧ a' = a - rooms.sum + (finL wt rooms a).sum ∧ (stepL wt (finL wt rooms a) a').sum = 0 := by
  generalize hm : rooms.sum.toNat = m
  induction m using Nat.strongRecOn generalizing rooms a with
  | ind m ih =>
    by_cases hs : (stepL wt rooms a).sum = 0
    · rw [fin_end hs]
      exact ⟨a, h, by omega, hs⟩
    · rw [h.fin_go hs]
      have h1 := h.step_le
      have h2 := h.next_sum
      obtain ⟨a', r, e, s⟩ := ih _ (by omega) h.next rfl
      exact ⟨a', r, by omega, s⟩
/-- What is left in the end: nothing, or nobody with a weight has room. -/
theorem Rm.fin_left (h : Rm n wt rooms a) : 0 ≤ a - rooms.sum + (finL wt rooms a).sum ∧ (0 < a - rooms.sum + (finL wt rooms a).sum → ∀ i, i < n → 0 < wt.getD i 0 → (finL wt rooms a).getD i 0 = 0) := by
  obtain ⟨a', r, e, s⟩ := h.fin_still
  have r0 := r.ab.1
  refine ⟨by omega, fun hp i hi hw => ?_⟩
  have hz := r.still.1 s
  have ho : (openL wt (finL wt rooms a)).sum = 0 := Classical.byContradiction fun hn => by
    rw [Go.Proofs.Ytnipnemhbelcaaa.share_sum r.ab.1 r.wts hn] at hz
    omega
  have hi2 : i < (openL wt (finL wt rooms a)).length := by rw [r.lo]; exact hi
  have h1 := mem_le_sum (xs := openL wt (finL wt rooms a)) (fun z hz => (r.open_bd z hz).1) (y := (openL wt (finL wt rooms a)).getD i 0) (by
    have e : (openL wt (finL wt rooms a)).getD i 0 = (openL wt (finL wt rooms a))[i] := by simp [hi2]
    rw [e]; exact List.getElem_mem hi2)
  rw [r.open_at hi] at h1
  by_cases hr : (finL wt rooms a).getD i 0 = 0
  · exact hr
  · rw [if_neg hr] at h1; omega
theorem Rm.fin_stiff (h : Rm n wt rooms a) {i : Nat} (hi : i < n) (hw : wt.getD i 0 = 0) : (finL wt rooms a).getD i 0 = rooms.getD i 0 := by
  generalize hm : rooms.sum.toNat = m
  induction m using Nat.strongRecOn generalizing rooms a with
  | ind m ih =>
    by_cases hs : (stepL wt rooms a).sum = 0
    · rw [fin_end hs]
    · rw [h.fin_go hs]
      have h1 := h.step_le
      have h2 := h.next_sum
      rw [ih _ (by omega) h.next rfl, h.next_at hi]
      have h3 := h.step_bd hi
      have h4 : (shareL a (openL wt rooms)).getD i 0 = 0 := by
        by_cases hz : (openL wt rooms).sum = 0
        · unfold shareL; rw [if_pos hz]; simp [h.lo, hi]
        · exact share_none h.ab.1 h.wts hz i (by rw [h.lo]; exact hi) (by rw [h.open_at hi, hw]; split <;> rfl)
      omega
theorem Rm.fin_zero (h : Rm n wt rooms a) (ha : a ≤ 0) : finL wt rooms a = rooms := by
  refine fin_end ?_
  have h1 := h.step_le
  omega
end
section
variable {n : Nat} {zs : List Int} {s : Int}
theorem roomG_sum : (roomG n zs).sum = (colL n zs 2).sum - (colL n zs 0).sum := by
  have e : roomG n zs = List.zipWith (· - ·) (colL n zs 2) (colL n zs 0) := list_ext (by simp [roomG, colL]) (fun i hi => by
    have hi : i < n := by simpa [roomG] using hi
    rw [roomG_at hi, zip_at (by rw [colL_len]; exact hi) (by rw [colL_len]; exact hi), colL_at hi, colL_at hi]; rfl)
  rw [e, sum_zip_sub (by rw [colL_len, colL_len])]
theorem roomS_sum : (roomS n zs).sum = (colL n zs 0).sum - (colL n zs 1).sum := by
  have e : roomS n zs = List.zipWith (· - ·) (colL n zs 0) (colL n zs 1) := list_ext (by simp [roomS, colL]) (fun i hi => by
    have hi : i < n := by simpa [roomS] using hi
    rw [roomS_at hi, zip_at (by rw [colL_len]; exact hi) (by rw [colL_len]; exact hi), colL_at hi, colL_at hi]; rfl)
  rw [e, sum_zip_sub (by rw [colL_len, colL_len])]
/-- Sizes that grow. -/
theorem flex_grow (hv : flsB n zs = true) (hs : 0 ≤ s ∧ s ≤ 200000) (hl : 0 ≤ s - (colL n zs 0).sum) :
    (∀ i, i < n → zs.getD (i * 5) 0 ≤ (flexL n zs s).getD i 0) ∧ (flexL n zs s).sum ≤ s ∧ ((flexL n zs s).sum < s → ∀ i, i < n → 0 < zs.getD (i * 5 + 3) 0 → (flexL n zs s).getD i 0 = zs.getD (i * 5 + 2) 0) ∧ (∀ i, i < n → zs.getD (i * 5 + 3) 0 = 0 → (flexL n zs s).getD i 0 = zs.getD (i * 5) 0) := by
  have R := Rm.grow hv hs hl
  obtain ⟨⟨a', h1⟩, h2⟩ := R.fin
  obtain ⟨l1, l2⟩ := R.fin_left
  have fs : (finL (colL n zs 3) (roomG n zs) (s - (colL n zs 0).sum)).sum = (colL n zs 2).sum - (flexL n zs s).sum := by
    have e : finL (colL n zs 3) (roomG n zs) (s - (colL n zs 0).sum) = List.zipWith (· - ·) (colL n zs 2) (flexL n zs s) := list_ext (by rw [List.length_zipWith, colL_len, flexL_len, h1.lr]; omega) (fun i hi => by
      rw [h1.lr] at hi
      rw [zip_at (by rw [colL_len]; exact hi) (by rw [flexL_len]; exact hi), colL_at hi, flexL_at_grow hl hi]; omega)
    rw [e, sum_zip_sub (by rw [colL_len, flexL_len])]
  rw [fs, roomG_sum] at l1 l2
  refine ⟨fun i hi => ?_, by omega, fun hp i hi hw => ?_, fun i hi hw => ?_⟩
  · have := h2 i hi
    rw [roomG_at hi] at this
    rw [flexL_at_grow hl hi]; omega
  · have := l2 (by omega) i hi (by rw [colL_at hi]; exact hw)
    rw [flexL_at_grow hl hi, this]; omega
  · have := R.fin_stiff hi (by rw [colL_at hi]; exact hw)
    rw [flexL_at_grow hl hi, this, roomG_at hi]; omega
/-- Sizes that shrink. -/
theorem flex_shrink (hv : flsB n zs = true) (hs : 0 ≤ s ∧ s ≤ 200000) (hl : ¬ 0 ≤ s - (colL n zs 0).sum) :
    (∀ i, i < n → (flexL n zs s).getD i 0 ≤ zs.getD (i * 5) 0) ∧ s ≤ (flexL n zs s).sum ∧ (s < (flexL n zs s).sum → ∀ i, i < n → 0 < zs.getD (i * 5 + 4) 0 → (flexL n zs s).getD i 0 = zs.getD (i * 5 + 1) 0) ∧ (∀ i, i < n → zs.getD (i * 5 + 4) 0 = 0 → (flexL n zs s).getD i 0 = zs.getD (i * 5) 0) := by
  have R := Rm.shrink hv hs hl
  obtain ⟨⟨a', h1⟩, h2⟩ := R.fin
  obtain ⟨l1, l2⟩ := R.fin_left
  have fs : (finL (colL n zs 4) (roomS n zs) ((colL n zs 0).sum - s)).sum = (flexL n zs s).sum - (colL n zs 1).sum := by
    have e : finL (colL n zs 4) (roomS n zs) ((colL n zs 0).sum - s) = List.zipWith (· - ·) (flexL n zs s) (colL n zs 1) := list_ext (by rw [List.length_zipWith, colL_len, flexL_len, h1.lr]; omega) (fun i hi => by
      rw [h1.lr] at hi
      rw [zip_at (by rw [flexL_len]; exact hi) (by rw [colL_len]; exact hi), colL_at hi, flexL_at_shrink hl hi]; omega)
    rw [e, sum_zip_sub (by rw [colL_len, flexL_len])]
  rw [fs, roomS_sum] at l1 l2
  refine ⟨fun i hi => ?_, by omega, fun hp i hi hw => ?_, fun i hi hw => ?_⟩
  · have := h2 i hi
    rw [roomS_at hi] at this
    rw [flexL_at_shrink hl hi]; omega
  · have := l2 (by omega) i hi (by rw [colL_at hi]; exact hw)
    rw [flexL_at_shrink hl hi, this]; omega
  · have := R.fin_stiff hi (by rw [colL_at hi]; exact hw)
    rw [flexL_at_shrink hl hi, this, roomS_at hi]; omega
theorem cbase_bd (hv : flsB n zs = true) : 0 ≤ (colL n zs 0).sum ∧ (colL n zs 0).sum ≤ 200000 := by
  have h := colL_sum_bd hv n (Nat.le_refl _)
  rw [List.take_of_length_le (by rw [colL_len]; exact Nat.le_refl _)] at h
  have := (flsB_iff.1 hv).1
  omega
theorem flex_base (hv : flsB n zs = true) : flexL n zs (colL n zs 0).sum = colL n zs 0 := by
  have hl : 0 ≤ (colL n zs 0).sum - (colL n zs 0).sum := by omega
  refine list_ext (by rw [flexL_len, colL_len]) (fun i hi => ?_)
  rw [flexL_len] at hi
  rw [flexL_at_grow hl hi, (Rm.grow hv (cbase_bd hv) hl).fin_zero (by omega), roomG_at hi, colL_at hi]
  simp only [Nat.add_zero]
  omega
/-- More space makes the sizes no smaller together. -/
theorem flex_more (hv : flsB n zs = true) (h0 : 0 ≤ s) (h1 : s + 1 ≤ 200000) : (flexL n zs s).sum ≤ (flexL n zs (s + 1)).sum := by
  have hs : 0 ≤ s ∧ s ≤ 200000 := ⟨h0, by omega⟩
  have hs' : 0 ≤ s + 1 ∧ s + 1 ≤ 200000 := ⟨by omega, h1⟩
  have ll : (flexL n zs s).length = (flexL n zs (s + 1)).length := by rw [flexL_len, flexL_len]
  by_cases hl : 0 ≤ s - (colL n zs 0).sum
  · have hl' : 0 ≤ s + 1 - (colL n zs 0).sum := by omega
    obtain ⟨a1, a2, a3, a4⟩ := flex_grow hv hs hl
    obtain ⟨b1, b2, b3, b4⟩ := flex_grow hv hs' hl'
    by_cases hf : (flexL n zs (s + 1)).sum < s + 1
    · refine sum_mono ll (fun i hi => ?_)
      rw [flexL_len] at hi
      by_cases hw : zs.getD (i * 5 + 3) 0 = 0
      · rw [a4 i hi hw, b4 i hi hw]; exact Int.le_refl _
      · have hk := flOk_iff.1 ((flsB_iff.1 hv).2 i hi)
        rw [b3 hf i hi (by omega)]
        exact (flexL_bd hv hs i hi).2
    · omega
  · obtain ⟨a1, a2, a3, a4⟩ := flex_shrink hv hs hl
    by_cases hl' : 0 ≤ s + 1 - (colL n zs 0).sum
    · obtain ⟨b1, b2, b3, b4⟩ := flex_grow hv hs' hl'
      refine sum_mono ll (fun i hi => ?_)
      rw [flexL_len] at hi
      exact Int.le_trans (a1 i hi) (b1 i hi)
    · obtain ⟨b1, b2, b3, b4⟩ := flex_shrink hv hs' hl'
      by_cases hf : s < (flexL n zs s).sum
      · refine sum_mono ll (fun i hi => ?_)
        rw [flexL_len] at hi
        by_cases hw : zs.getD (i * 5 + 4) 0 = 0
        · rw [a4 i hi hw, b4 i hi hw]; exact Int.le_refl _
        · have hk := flOk_iff.1 ((flsB_iff.1 hv).2 i hi)
          rw [a3 hf i hi (by omega)]
          exact (flexL_bd hv hs' i hi).1
      · omega
/-- Sizes without weights stay. -/
theorem flex_stiff (hv : flsB n zs = true) (hs : 0 ≤ s ∧ s ≤ 200000) (hw : ∀ i, i < n → zs.getD (i * 5 + 3) 0 = 0 ∧ zs.getD (i * 5 + 4) 0 = 0) : flexL n zs s = colL n zs 0 := by
  refine list_ext (by rw [flexL_len, colL_len]) (fun i hi => ?_)
  rw [flexL_len] at hi
  rw [colL_at hi, Nat.add_zero]
  by_cases hl : 0 ≤ s - (colL n zs 0).sum
  · exact (flex_grow hv hs hl).2.2.2 i hi (hw i hi).1
  · exact (flex_shrink hv hs hl).2.2.2 i hi (hw i hi).2
/-- One size with both weights 1. -/
theorem flex_one {b lo hi : Int} (hv : flsB 1 [b, lo, hi, 1, 1] = true) (hs : 0 ≤ s ∧ s ≤ 200000) : flexL 1 [b, lo, hi, 1, 1] s = [max lo (min hi s)] := by
  have hk := flOk_iff.1 ((flsB_iff.1 hv).2 0 (by omega))
  have hb := flexL_bd hv hs 0 (by omega)
  have ln := flexL_len 1 [b, lo, hi, 1, 1] s
  have cb : (colL 1 [b, lo, hi, 1, 1] 0).sum = b := by simp [colL]
  have hg := fun hl => flex_grow hv hs hl
  have hh := fun hl => flex_shrink hv hs hl
  rw [cb] at hg hh
  generalize flexL 1 [b, lo, hi, 1, 1] s = os at *
  obtain ⟨o, rfl⟩ : ∃ o, os = [o] := List.length_eq_one_iff.1 ln
  simp at hk hb hg hh
  congr 1
  by_cases hl : b ≤ s
  · obtain ⟨g1, g2, g3⟩ := hg hl
    by_cases ho : o < s
    · have := g3 ho; omega
    · omega
  · obtain ⟨g1, g2, g3⟩ := hh (by omega)
    by_cases ho : s < o
    · have := g3 ho; omega
    · omega
end
end Go.Proofs.Ytnipnemhbelcaaa
