/- Plain facts on the sizes of tracks: their sum, who has more. No condition. -/
import Derived.Test.YtmpbghepcjcnjaaTrkM
namespace Go.Proofs.Ytmpbghepcjcnjaa
open Go.RowKit

section
variable {n k : Nat} {zs : List Int} {space gap : Int}
theorem sum_range_add (f g : Nat → Int) : ∀ n : Nat, ((List.range n).map fun i => f i + g i).sum = ((List.range n).map f).sum + ((List.range n).map g).sum
  | 0 => rfl
  | n + 1 => by
    have ih := sum_range_add f g n
    rw [List.range_succ, List.map_append, List.map_append, List.map_append, List.sum_append, List.sum_append, List.sum_append, ih]
    simp only [List.map_cons, List.map_nil, List.sum_cons, List.sum_nil]
    omega
theorem tsL_sum (n : Nat) (zs : List Int) (space gap : Int) : (tsL n zs space gap).sum = (szL n zs).sum + (shareL (leftT n zs space gap) (ptL n zs)).sum := by
  have e := map_getD (shareL (leftT n zs space gap) (ptL n zs))
  rw [shareL_len, ptL_len] at e
  unfold tsL szL colL
  rw [sum_range_add, e]
  rfl
theorem sum_pos_of (h : ∀ z ∈ zs, 0 ≤ z) (hk : k < zs.length) (hp : 0 < zs.getD k 0) : zs.sum ≠ 0 := by
  have h1 := mem_le_sum h (y := zs.getD k 0) (by rw [show zs.getD k 0 = zs[k] by simp [hk]]; exact List.getElem_mem hk)
  omega
theorem sum_zero_of : ∀ {xs : List Int}, (∀ k, k < xs.length → xs.getD k 0 = 0) → xs.sum = 0
  | [], _ => rfl
  | x :: xs, h => by
    have h0 := h 0 (by simp)
    have h1 := sum_zero_of (xs := xs) fun k hk => by have := h (k + 1) (by simp; omega); simpa using this
    simp at h0
    rw [List.sum_cons, h0, h1]
    rfl
theorem ptL_nn (h : ∀ k, k < n → trOk zs k = true) : ∀ z ∈ ptL n zs, 0 ≤ z := fun z hz => (ptL_mem h z hz).1
/-- A track without a part keeps its size. -/
theorem tsL_fixed (hv : tsOk n zs space gap = true) (hk : k < n) (hp : zs.getD (k * 2 + 1) 0 = 0) : (tsL n zs space gap).getD k 0 = zs.getD (k * 2) 0 := by
  obtain ⟨hv1, hs, hg⟩ := tsOk_iff.1 hv
  obtain ⟨hn8, hok⟩ := trsB_iff.1 hv1
  rw [tsL_at hk]
  have e : (shareL (leftT n zs space gap) (ptL n zs)).getD k 0 = 0 := by
    by_cases hz : (ptL n zs).sum = 0
    · unfold shareL
      rw [if_pos hz]
      simp [ptL_len, hk]
    · exact share_none (leftT_bd hn8 hok hs hg).1 (share_wts hok) hz k (by rw [ptL_len]; exact hk) (by rw [ptL_at hk]; exact hp)
  omega
/-- Tracks and gaps fill the space, if one has a part; else they need what they need. -/
theorem tsL_some (hv : tsOk n zs space gap = true) (hk : k < n) (hp : 0 < zs.getD (k * 2 + 1) 0) : (tsL n zs space gap).sum + gap * ((n : Int) - 1) = mx space (gap * ((n : Int) - 1) + (szL n zs).sum) := by
  obtain ⟨hv1, hs, hg⟩ := tsOk_iff.1 hv
  obtain ⟨hn8, hok⟩ := trsB_iff.1 hv1
  have hz : (ptL n zs).sum ≠ 0 := sum_pos_of (ptL_nn hok) (k := k) (by rw [ptL_len]; exact hk) (by rw [ptL_at hk]; exact hp)
  rw [tsL_sum, share_sum (leftT_bd hn8 hok hs hg).1 (share_wts hok) hz]
  unfold leftT
  rw [gapSum_pos (szL_len n zs) (by omega)]
  unfold mx
  omega
theorem tsL_none (h0 : ∀ k, k < n → zs.getD (k * 2 + 1) 0 = 0) : (tsL n zs space gap).sum = (szL n zs).sum := by
  have hz : (ptL n zs).sum = 0 := sum_zero_of fun k hk => by rw [ptL_len] at hk; rw [ptL_at hk]; exact h0 k hk
  rw [tsL_sum]
  unfold shareL
  rw [if_pos hz]
  simp
/-- Of two tracks with parts the one with the larger part is not smaller. -/
theorem tsL_part (hv : tsOk n zs space gap = true) {i : Nat} (hi : i < n) (hk : k < n) (hp : 0 < zs.getD (k * 2 + 1) 0) (hlt : zs.getD (k * 2 + 1) 0 < zs.getD (i * 2 + 1) 0) : (tsL n zs space gap).getD k 0 ≤ (tsL n zs space gap).getD i 0 := by
  obtain ⟨hv1, hs, hg⟩ := tsOk_iff.1 hv
  obtain ⟨hn8, hok⟩ := trsB_iff.1 hv1
  have hz : (ptL n zs).sum ≠ 0 := sum_pos_of (ptL_nn hok) (k := k) (by rw [ptL_len]; exact hk) (by rw [ptL_at hk]; exact hp)
  have m := share_mono (leftT_bd hn8 hok hs hg).1 (share_wts hok) hz i k (by rw [ptL_len]; exact hi) (by rw [ptL_len]; exact hk) (by rw [ptL_at hi, ptL_at hk]; exact hlt)
  have a := (okTr_iff.1 (hok i hi)).2.2
  have b := (okTr_iff.1 (hok k hk)).2.2
  rw [tsL_at hi, tsL_at hk]
  omega
/-- A point of space more is at most a point more for all. -/
theorem tsL_more (hv : tsOk n zs space gap = true) (hs : space + 1 ≤ 200000) : (tsL n zs (space + 1) gap).sum = (tsL n zs space gap).sum ∨ (tsL n zs (space + 1) gap).sum = (tsL n zs space gap).sum + 1 := by
  obtain ⟨hv1, hs0, hg⟩ := tsOk_iff.1 hv
  obtain ⟨hn8, hok⟩ := trsB_iff.1 hv1
  have hv2 : tsOk n zs (space + 1) gap = true := tsOk_iff.2 ⟨hv1, by omega, hg⟩
  by_cases hz : ∃ k, k < n ∧ 0 < zs.getD (k * 2 + 1) 0
  · obtain ⟨k, hk, hp⟩ := hz
    have h1 := tsL_some hv hk hp
    have h2 := tsL_some hv2 hk hp
    unfold mx at h1 h2
    omega
  · have h0 : ∀ k, k < n → zs.getD (k * 2 + 1) 0 = 0 := fun k hk => by
      have h1 := (okTr_iff.1 (hok k hk)).2.1
      have h2 : ¬ 0 < zs.getD (k * 2 + 1) 0 := fun h => hz ⟨k, hk, h⟩
      omega
    rw [tsL_none h0, tsL_none h0]
    exact .inl rfl
/-- A list without its last or its first element. -/
theorem stsHead {m n : Nat} {w : World} {A : Option Addr} {zs : List Int} (h : Sts m w A (n + 1) zs) : Sts m w A n (zs.take (n * m)) := by
  have e : (n + 1) * m = n * m + m := by rw [Nat.add_mul, Nat.one_mul]
  refine ⟨by rw [List.length_take, h.len, e]; omega, fun hn => ?_⟩
  obtain ⟨b, off, ha, hb, hc⟩ := h.at_ (by omega)
  exact ⟨b, off, ha, hb, fun i hi => by rw [List.getD_eq_getElem?_getD, List.getElem?_take_of_lt hi, ← List.getD_eq_getElem?_getD]; exact hc i (by omega)⟩
theorem stsTail {m n : Nat} {w : World} {b off : Nat} {zs : List Int} (h : Sts m w (some ⟨b, off, none⟩) (n + 1) zs) : Sts m w (some ⟨b, off + m, none⟩) n (zs.drop m) := by
  have e : (n + 1) * m = n * m + m := by rw [Nat.add_mul, Nat.one_mul]
  refine ⟨by rw [List.length_drop, h.len, e]; omega, fun hn => ?_⟩
  obtain ⟨b', off', ha, hb, hc⟩ := h.at_ (by omega)
  obtain ⟨rfl, rfl⟩ : b = b' ∧ off = off' := by simpa using ha
  exact ⟨b, off + m, rfl, hb, fun i hi => by rw [List.getD_eq_getElem?_getD, List.getElem?_drop, ← List.getD_eq_getElem?_getD, Nat.add_assoc]; exact hc (m + i) (by omega)⟩
theorem trsB_head (h : trsB (n + 1) zs = true) (hn : 1 ≤ n) : trsB n (zs.take (n * 2)) = true := by
  rw [trsB_iff] at h ⊢
  refine ⟨by omega, fun k hk => ?_⟩
  have h2 := h.2 k (by omega)
  unfold trOk at h2 ⊢
  rw [List.getD_eq_getElem?_getD, List.getD_eq_getElem?_getD, List.getElem?_take_of_lt (by omega), List.getElem?_take_of_lt (by omega), ← List.getD_eq_getElem?_getD, ← List.getD_eq_getElem?_getD]
  exact h2
theorem trsB_tail (h : trsB (n + 1) zs = true) (hn : 1 ≤ n) : trsB n (zs.drop 2) = true := by
  rw [trsB_iff] at h ⊢
  refine ⟨by omega, fun k hk => ?_⟩
  have h2 := h.2 (k + 1) (by omega)
  unfold trOk at h2 ⊢
  rw [List.getD_eq_getElem?_getD, List.getD_eq_getElem?_getD, List.getElem?_drop, List.getElem?_drop, ← List.getD_eq_getElem?_getD, ← List.getD_eq_getElem?_getD, show 2 + k * 2 = (k + 1) * 2 by omega, show 2 + (k * 2 + 1) = (k + 1) * 2 + 1 by omega]
  exact h2
end
end Go.Proofs.Ytmpbghepcjcnjaa
