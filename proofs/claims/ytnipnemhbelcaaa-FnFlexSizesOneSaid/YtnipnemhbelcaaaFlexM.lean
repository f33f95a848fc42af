/- Plain facts on sizes that are moved towards their bounds, in rounds. No condition. -/
import Derived.Test.YtnipnemhbelcaaaShareZ
import Derived.Test.YtnipnemhbelcaaaShareK2
namespace Go.Proofs.Ytnipnemhbelcaaa
open Go.RowKit

/-- The weights of those that have room. -/
def openL (wt rooms : List Int) : List Int := List.zipWith (fun a r => if r = 0 then 0 else a) wt rooms
/-- By how much each is moved in a round. -/
def stepL (wt rooms : List Int) (a : Int) : List Int := List.zipWith min (shareL a (openL wt rooms)) rooms
def nextL (wt rooms : List Int) (a : Int) : List Int := List.zipWith (· - ·) rooms (stepL wt rooms a)
/-- The room that is left in the end. -/
def finL (wt rooms : List Int) (a : Int) : List Int :=
  if _h : 0 < (stepL wt rooms a).sum ∧ (nextL wt rooms a).sum = rooms.sum - (stepL wt rooms a).sum ∧ (stepL wt rooms a).sum ≤ rooms.sum then finL wt (nextL wt rooms a) (a - (stepL wt rooms a).sum) else rooms
termination_by rooms.sum.toNat
decreasing_by omega
/-- Weights, rooms and an amount in their ranges. -/
structure Rm (n : Nat) (wt rooms : List Int) (a : Int) : Prop where
  n1 : 1 ≤ n
  n8 : n ≤ 8
  lw : wt.length = n
  lr : rooms.length = n
  wb : ∀ i, i < n → 0 ≤ wt.getD i 0 ∧ wt.getD i 0 ≤ 10
  rb : ∀ i, i < n → 0 ≤ rooms.getD i 0 ∧ rooms.getD i 0 ≤ 10000
  ab : 0 ≤ a ∧ a ≤ 200000
theorem zip_at {f : Int → Int → Int} {xs ys : List Int} {i : Nat} (hx : i < xs.length) (hy : i < ys.length) : (List.zipWith f xs ys).getD i 0 = f (xs.getD i 0) (ys.getD i 0) := by
  have h : i < (List.zipWith f xs ys).length := by rw [List.length_zipWith]; omega
  have e1 : (List.zipWith f xs ys).getD i 0 = (List.zipWith f xs ys)[i] := by rw [List.getD_eq_getElem?_getD, List.getElem?_eq_getElem h]; rfl
  have e2 : xs.getD i 0 = xs[i] := by simp [hx]
  have e3 : ys.getD i 0 = ys[i] := by simp [hy]
  rw [e1, e2, e3, List.getElem_zipWith]
theorem all_at {xs : List Int} {P : Int → Prop} (h : ∀ i, i < xs.length → P (xs.getD i 0)) : ∀ z ∈ xs, P z := fun z hz => by
  obtain ⟨i, hi, rfl⟩ := List.mem_iff_getElem.1 hz
  have e : xs.getD i 0 = xs[i] := by simp [hi]
  rw [← e]; exact h i hi
theorem sum_zip_sub {xs ys : List Int} (h : xs.length = ys.length) : (List.zipWith (· - ·) xs ys).sum = xs.sum - ys.sum := by
  induction xs generalizing ys with
  | nil => cases ys with
    | nil => rfl
    | cons y ys => simp at h
  | cons x xs ih => cases ys with
    | nil => simp at h
    | cons y ys =>
      simp only [List.zipWith_cons_cons, List.sum_cons]
      rw [ih (by simpa using h)]
      omega
theorem sum_mono {xs ys : List Int} (h : xs.length = ys.length) (hle : ∀ i, i < xs.length → xs.getD i 0 ≤ ys.getD i 0) : xs.sum ≤ ys.sum := by
  induction xs generalizing ys with
  | nil => cases ys with
    | nil => exact Int.le_refl _
    | cons y ys => simp at h
  | cons x xs ih => cases ys with
    | nil => simp at h
    | cons y ys =>
      have h0 := hle 0 (by simp)
      have h1 := ih (ys := ys) (by simpa using h) (fun i hi => by have := hle (i + 1) (by simpa using hi); simpa using this)
      simp only [List.sum_cons]
      simp at h0
      omega
section
variable {n : Nat} {wt rooms : List Int} {a : Int}
theorem Rm.lo (h : Rm n wt rooms a) : (openL wt rooms).length = n := by unfold openL; rw [List.length_zipWith, h.lw, h.lr]; omega
theorem Rm.open_at (h : Rm n wt rooms a) {i : Nat} (hi : i < n) : (openL wt rooms).getD i 0 = if rooms.getD i 0 = 0 then 0 else wt.getD i 0 := by
  unfold openL
  rw [zip_at (by rw [h.lw]; exact hi) (by rw [h.lr]; exact hi)]
theorem Rm.open_bd (h : Rm n wt rooms a) : ∀ z ∈ openL wt rooms, 0 ≤ z ∧ z ≤ 10 := all_at (P := fun z => 0 ≤ z ∧ z ≤ 10) fun i hi => by
  rw [h.lo] at hi
  rw [h.open_at hi]
  have := h.wb i hi
  split <;> omega
theorem Rm.wts (h : Rm n wt rooms a) : Wts (openL wt rooms) := fun z hz => by have := h.open_bd z hz; omega
theorem Rm.ok (h : Rm n wt rooms a) : shOk a (openL wt rooms) = true := by
  unfold shOk
  rw [Bool.and_eq_true, decide_eq_true_eq]
  exact ⟨h.ab, rowB_iff.2 ⟨by rw [h.lo]; have := h.n1; have := h.n8; omega, h.wts⟩⟩
theorem Rm.shareA (h : Rm n wt rooms a) : Go.Proofs.Ytnipnemhbelcaaa.shareA a (openL wt rooms) = shareL a (openL wt rooms) := by unfold Go.Proofs.Ytnipnemhbelcaaa.shareA; rw [if_pos h.ok]
theorem Rm.ls (h : Rm n wt rooms a) : (shareL a (openL wt rooms)).length = n := by rw [shareL_len, h.lo]
theorem Rm.share_bd (h : Rm n wt rooms a) (i : Nat) : 0 ≤ (shareL a (openL wt rooms)).getD i 0 ∧ (shareL a (openL wt rooms)).getD i 0 ≤ a := by
  by_cases hs : (openL wt rooms).sum = 0
  · unfold shareL
    rw [if_pos hs]
    by_cases hi : i < (openL wt rooms).length
    · have := h.ab; simp [hi]; omega
    · have := h.ab; simp [Nat.le_of_not_lt hi]; omega
  · exact share_le h.ab.1 h.wts hs i
/-- Who has no room gets no share. -/
theorem Rm.share_room (h : Rm n wt rooms a) {i : Nat} (hi : i < n) (hr : rooms.getD i 0 = 0) : (shareL a (openL wt rooms)).getD i 0 = 0 := by
  by_cases hs : (openL wt rooms).sum = 0
  · unfold shareL
    rw [if_pos hs]
    simp [h.lo, hi]
  · exact share_none h.ab.1 h.wts hs i (by rw [h.lo]; exact hi) (by rw [h.open_at hi, if_pos hr])
theorem Rm.lst (h : Rm n wt rooms a) : (stepL wt rooms a).length = n := by unfold stepL; rw [List.length_zipWith, h.ls, h.lr]; omega
theorem Rm.step_at (h : Rm n wt rooms a) {i : Nat} (hi : i < n) : (stepL wt rooms a).getD i 0 = min ((shareL a (openL wt rooms)).getD i 0) (rooms.getD i 0) := by
  unfold stepL
  rw [zip_at (by rw [h.ls]; exact hi) (by rw [h.lr]; exact hi)]
theorem Rm.ln (h : Rm n wt rooms a) : (nextL wt rooms a).length = n := by unfold nextL; rw [List.length_zipWith, h.lst, h.lr]; omega
theorem Rm.next_at (h : Rm n wt rooms a) {i : Nat} (hi : i < n) : (nextL wt rooms a).getD i 0 = rooms.getD i 0 - (stepL wt rooms a).getD i 0 := by
  unfold nextL
  rw [zip_at (by rw [h.lr]; exact hi) (by rw [h.lst]; exact hi)]
theorem Rm.step_bd (h : Rm n wt rooms a) {i : Nat} (hi : i < n) : 0 ≤ (stepL wt rooms a).getD i 0 ∧ (stepL wt rooms a).getD i 0 ≤ rooms.getD i 0 ∧ (stepL wt rooms a).getD i 0 ≤ (shareL a (openL wt rooms)).getD i 0 := by
  rw [h.step_at hi]
  have h1 := h.share_bd i
  have h2 := h.rb i hi
  omega
theorem Rm.next_sum (h : Rm n wt rooms a) : (nextL wt rooms a).sum = rooms.sum - (stepL wt rooms a).sum := by
  unfold nextL
  exact sum_zip_sub (by rw [h.lr, h.lst])
theorem Rm.share_sum (h : Rm n wt rooms a) : (shareL a (openL wt rooms)).sum ≤ a := by
  by_cases hs : (openL wt rooms).sum = 0
  · unfold shareL
    rw [if_pos hs]
    have := h.ab.1
    simpa using this
  · rw [Go.Proofs.Ytnipnemhbelcaaa.share_sum h.ab.1 h.wts hs]; exact Int.le_refl _
theorem Rm.step_le (h : Rm n wt rooms a) : 0 ≤ (stepL wt rooms a).sum ∧ (stepL wt rooms a).sum ≤ rooms.sum ∧ (stepL wt rooms a).sum ≤ a := by
  refine ⟨sum_nonneg (all_at (P := fun z => 0 ≤ z) fun i hi => (h.step_bd (by rw [h.lst] at hi; exact hi)).1), sum_mono (by rw [h.lst, h.lr]) fun i hi => (h.step_bd (by rw [h.lst] at hi; exact hi)).2.1, ?_⟩
  have h1 : (stepL wt rooms a).sum ≤ (shareL a (openL wt rooms)).sum := sum_mono (by rw [h.lst, h.ls]) fun i hi => (h.step_bd (by rw [h.lst] at hi; exact hi)).2.2
  exact Int.le_trans h1 h.share_sum
theorem Rm.next (h : Rm n wt rooms a) : Rm n wt (nextL wt rooms a) (a - (stepL wt rooms a).sum) := by
  refine ⟨h.n1, h.n8, h.lw, h.ln, h.wb, fun i hi => ?_, ?_⟩
  · rw [h.next_at hi]
    have h1 := h.step_bd hi
    have h2 := h.rb i hi
    omega
  · have := h.step_le
    have := h.ab
    omega
theorem Rm.fin_go (h : Rm n wt rooms a) (hs : (stepL wt rooms a).sum ≠ 0) : finL wt rooms a = finL wt (nextL wt rooms a) (a - (stepL wt rooms a).sum) := by
  have h1 := h.step_le
  rw [finL, dif_pos ⟨by omega, h.next_sum, h1.2.1⟩]
theorem fin_end (hs : (stepL wt rooms a).sum = 0) : finL wt rooms a = rooms := by
  rw [finL, dif_neg (by omega)]
theorem Rm.fin (h : Rm n wt rooms a) : (∃ a', Rm n wt (finL wt rooms a) a') ∧ ∀ i, i < n → (finL wt rooms a).getD i 0 ≤ rooms.getD i 0 := by
  generalize hm : rooms.sum.toNat = m
  induction m using Nat.strongRecOn generalizing rooms a with
  | ind m ih =>
    by_cases hs : (stepL wt rooms a).sum = 0
    · rw [fin_end hs]
      exact ⟨⟨a, h⟩, fun i _ => Int.le_refl _⟩
    · rw [h.fin_go hs]
      have h1 := h.step_le
      have h2 := h.next_sum
      obtain ⟨h3, h4⟩ := ih _ (by omega) h.next rfl
      refine ⟨h3, fun i hi => ?_⟩
      have h5 := h4 i hi
      rw [h.next_at hi] at h5
      have h6 := (h.step_bd hi).1
      omega
/-- Nothing moves exactly if all shares are 0. -/
theorem Rm.still (h : Rm n wt rooms a) : (stepL wt rooms a).sum = 0 ↔ (shareL a (openL wt rooms)).sum = 0 := by
  constructor
  · intro hs
    have hz : ∀ i, i < n → (stepL wt rooms a).getD i 0 = 0 := fun i hi => by
      have h1 := mem_le_sum (xs := stepL wt rooms a) (all_at (P := fun z => 0 ≤ z) fun i hi => (h.step_bd (by rw [h.lst] at hi; exact hi)).1) (y := (stepL wt rooms a).getD i 0) (by
        have hl : i < (stepL wt rooms a).length := by rw [h.lst]; exact hi
        have e : (stepL wt rooms a).getD i 0 = (stepL wt rooms a)[i] := by simp [hl]
        rw [e]; exact List.getElem_mem hl)
      have h2 := (h.step_bd hi).1
      omega
    have hsz : ∀ z ∈ shareL a (openL wt rooms), z = 0 := all_at (P := fun z => z = 0) fun i hi => by
      rw [h.ls] at hi
      have h1 := hz i hi
      rw [h.step_at hi] at h1
      have h2 := h.share_bd i
      have h3 := h.rb i hi
      by_cases hr : rooms.getD i 0 = 0
      · exact h.share_room hi hr
      · omega
    have : shareL a (openL wt rooms) = List.replicate (shareL a (openL wt rooms)).length 0 := List.eq_replicate_iff.2 ⟨rfl, hsz⟩
    rw [this]
    simp
  · intro hs
    have h1 := h.step_le
    have h2 : (stepL wt rooms a).sum ≤ (shareL a (openL wt rooms)).sum := sum_mono (by rw [h.lst, h.ls]) fun i hi => (h.step_bd (by rw [h.lst] at hi; exact hi)).2.2
    omega
end
end Go.Proofs.Ytnipnemhbelcaaa
