/- Parts that belong together: ShareK, ShareK2, FlexM, ShareE. Conditions: as each part says. -/
import Derived.Test.YtobnjagmakhgpaaZJ
import Derived.Test.YtobnjagmakhgpaaZK
/- Plain facts on shares: who gets one more; that shares add up to the space; that each is within one of the exact share; that more weight never gets less. Conditions: a space and weights in their ranges, not all 0. -/
namespace Go.Proofs.Ytobnjagmakhgpaa

theorem perm_sum {l l' : List Int} (h : l.Perm l') : l.sum = l'.sum := by
  induction h with
  | nil => rfl
  | cons x _ ih => simp [ih]
  | swap x y l => simp; omega
  | trans _ _ h1 h2 => exact h1.trans h2
theorem map_getD (r : List Int) : (List.range r.length).map (fun i => r.getD i 0) = r := by
  apply List.ext_getElem
  · simp
  · intro i h1 h2
    simp at h1
    simp [h1]
theorem sum_le_mul {l : List Nat} {f : Nat → Int} {M : Int} (h : ∀ i ∈ l, f i ≤ M) : (l.map f).sum ≤ (l.length : Int) * M := by
  induction l with
  | nil => simp
  | cons a l ih =>
    have h1 := h a (by simp)
    have h2 := ih fun i hi => h i (by simp [hi])
    have e : ((l.length + 1 : Nat) : Int) * M = (l.length : Int) * M + M := by rw [Int.natCast_add, Int.add_mul]; simp
    simp only [List.map_cons, List.sum_cons, List.length_cons]
    omega
theorem sum_zero {l : List Nat} {f : Nat → Int} (h : ∀ i ∈ l, f i = 0) : (l.map f).sum = 0 := by
  induction l with
  | nil => rfl
  | cons a l ih =>
    simp only [List.map_cons, List.sum_cons]
    rw [h a (by simp), ih fun i hi => h i (by simp [hi])]
    rfl
theorem sum_set1 (o : List Int) (k : Nat) (hk : k < o.length) : (o.set k (o.getD k 0 + 1)).sum = o.sum + 1 := by
  induction o generalizing k with
  | nil => simp at hk
  | cons x o ih =>
    cases k with
    | zero => simp; omega
    | succ k =>
      have h := ih k (by simpa using hk)
      simp only [List.getD_cons_succ, List.set_cons_succ, List.sum_cons]
      omega
theorem handL_sum (l : List Nat) (o : List Int) (h : ∀ i ∈ l, i < o.length) : (handL l o).sum = o.sum + (l.length : Int) := by
  induction l generalizing o with
  | nil => simp [handL]
  | cons a l ih =>
    have h1 := sum_set1 o a (h a (by simp))
    have h2 := ih (o.set a (o.getD a 0 + 1)) (fun i hi => by simpa using h i (by simp [hi]))
    have e : handL (a :: l) o = handL l (o.set a (o.getD a 0 + 1)) := rfl
    rw [e, h2, h1]
    simp; omega
theorem handL_at (l : List Nat) (hl : l.Nodup) (o : List Int) (i : Nat) (hi : i < o.length) : (handL l o).getD i 0 = o.getD i 0 + if i ∈ l then 1 else 0 := by
  induction l generalizing o with
  | nil => simp [handL]
  | cons a l ih =>
    have e : handL (a :: l) o = handL l (o.set a (o.getD a 0 + 1)) := rfl
    rw [e, ih (List.nodup_cons.1 hl).2 _ (by simpa using hi), getD_set _ _ _ _ hi]
    by_cases ha : a = i
    · subst ha
      have hn := (List.nodup_cons.1 hl).1
      rw [if_pos rfl, if_neg hn, if_pos (by simp)]
      omega
    · rw [if_neg ha]
      by_cases hm : i ∈ l
      · rw [if_pos hm, if_pos (by simp [hm])]
      · rw [if_neg hm, if_neg (by simp [hm]; omega)]
/-- Who gets one more. -/
def firstL (a : Int) (ws : List Int) : List Nat := (turnsL (restL a ws)).take (leftL a ws).toNat
section
variable {a : Int} {ws : List Int}
theorem sum_pos (hw : Wts ws) (hs : ws.sum ≠ 0) : 0 < ws.sum := by
  have := sum_nonneg (xs := ws) fun z hz => (hw z hz).1
  omega
theorem rest_bd (hw : Wts ws) (hs : ws.sum ≠ 0) (i : Nat) (hi : i < ws.length) : 0 ≤ (restL a ws).getD i 0 ∧ (restL a ws).getD i 0 ≤ ws.sum - 1 := by
  rw [restL_at a ws i hi]
  have h0 := sum_pos hw hs
  have h1 := Int.emod_nonneg (a * ws.getD i 0) (show ws.sum ≠ 0 from hs)
  have h2 := Int.emod_lt_of_pos (a * ws.getD i 0) h0
  omega
theorem share_hand (ha : 0 ≤ a) (hw : Wts ws) (hs : ws.sum ≠ 0) : shareL a ws = handL (firstL a ws) (baseL a ws) := by
  unfold shareL firstL
  rw [if_neg hs]
  have h1 := base_le a ws ha hw hs
  have h2 := left_le a ws hw hs
  have h0 : 0 ≤ leftL a ws := by unfold leftL; omega
  exact spin_turns _ _ (fun i hi => (rest_bd hw hs i (by rw [restL_len] at hi; exact hi)).1) _ (by rw [restL_len]; omega)
theorem firstL_len (ha : 0 ≤ a) (hw : Wts ws) (hs : ws.sum ≠ 0) : ((firstL a ws).length : Int) = leftL a ws := by
  unfold firstL
  have h1 := base_le a ws ha hw hs
  have h2 := left_le a ws hw hs
  have h0 : 0 ≤ leftL a ws := by unfold leftL; omega
  rw [List.length_take, turnsL_len, restL_len]
  omega
theorem firstL_lt (i : Nat) (h : i ∈ firstL a ws) : i < ws.length := by
  have h1 := (turnsL_perm (restL a ws)).mem_iff.1 (List.mem_of_mem_take h)
  rw [List.mem_range, restL_len] at h1
  exact h1
theorem firstL_nodup : (firstL a ws).Nodup :=
  List.Nodup.sublist (List.take_sublist _ _) ((turnsL_perm (restL a ws)).nodup_iff.2 List.nodup_range)
theorem firstL_front (i j : Nat) (hi : i < ws.length) (hn : i ∉ firstL a ws) (hj : j ∈ firstL a ws) : Front (restL a ws) j i := by
  have h1 : i ∈ turnsL (restL a ws) := (turnsL_perm (restL a ws)).mem_iff.2 (by rw [List.mem_range, restL_len]; exact hi)
  have e := (List.take_append_drop (leftL a ws).toNat (turnsL (restL a ws))).symm
  rw [e] at h1
  have hd : i ∈ (turnsL (restL a ws)).drop (leftL a ws).toNat := by
    rcases List.mem_append.1 h1 with h | h
    · exact absurd h hn
    · exact h
  have hp := turnsL_front (restL a ws)
  rw [e] at hp
  exact (List.pairwise_append.1 hp).2.2 j hj i hd
theorem share_sum (ha : 0 ≤ a) (hw : Wts ws) (hs : ws.sum ≠ 0) : (shareL a ws).sum = a := by
  rw [share_hand ha hw hs, handL_sum _ _ (fun i h => by rw [baseL_len]; exact firstL_lt i h), firstL_len ha hw hs]
  unfold leftL
  omega
theorem share_at (ha : 0 ≤ a) (hw : Wts ws) (hs : ws.sum ≠ 0) (i : Nat) (hi : i < ws.length) : (shareL a ws).getD i 0 = a * ws.getD i 0 / ws.sum + if i ∈ firstL a ws then 1 else 0 := by
  rw [share_hand ha hw hs, handL_at _ firstL_nodup _ _ (by rw [baseL_len]; exact hi), baseL_at a ws i hi]
theorem split_sum (s : Int) (xs : List Int) : a * xs.sum = (xs.map fun x => a * x / s).sum * s + (xs.map fun x => a * x % s).sum := by
  induction xs with
  | nil => simp
  | cons x xs ih =>
    have h := Int.mul_ediv_add_emod (a * x) s
    have e : a * x / s * s = s * (a * x / s) := Int.mul_comm _ _
    simp only [List.map_cons, List.sum_cons, Int.add_mul, Int.mul_add]
    omega
theorem rest_sum : (restL a ws).sum = leftL a ws * ws.sum := by
  have h := split_sum (a := a) ws.sum ws
  have e : (baseL a ws).sum = (ws.map fun x => a * x / ws.sum).sum := rfl
  have e2 : (restL a ws).sum = (ws.map fun x => a * x % ws.sum).sum := rfl
  unfold leftL
  rw [e2, Int.sub_mul, e]
  omega
/-- Who gets one more has a rest. -/
theorem first_pos (ha : 0 ≤ a) (hw : Wts ws) (hs : ws.sum ≠ 0) (i : Nat) (h : i ∈ firstL a ws) : 0 < (restL a ws).getD i 0 := by
  have hi := firstL_lt i h
  have hb := rest_bd (a := a) hw hs i hi
  rcases Int.lt_or_le 0 ((restL a ws).getD i 0) with h1 | h1
  · exact h1
  · exfalso
    have hz : ∀ k ∈ (turnsL (restL a ws)).drop (leftL a ws).toNat, (restL a ws).getD k 0 = 0 := fun k hk => by
      have hkm := (turnsL_perm (restL a ws)).mem_iff.1 (List.mem_of_mem_drop hk)
      rw [List.mem_range, restL_len] at hkm
      have hp := turnsL_front (restL a ws)
      rw [← List.take_append_drop (leftL a ws).toNat (turnsL (restL a ws))] at hp
      have hf := (List.pairwise_append.1 hp).2.2 i h k hk
      have hb2 := rest_bd (a := a) hw hs k hkm
      unfold Front at hf
      omega
    have e1 : ((turnsL (restL a ws)).map fun i => (restL a ws).getD i 0).sum = (restL a ws).sum := by
      rw [perm_sum ((turnsL_perm (restL a ws)).map fun i => (restL a ws).getD i 0), map_getD]
    rw [← List.take_append_drop (leftL a ws).toNat (turnsL (restL a ws)), List.map_append, List.sum_append, sum_zero hz] at e1
    have h2 := sum_le_mul (l := firstL a ws) (f := fun i => (restL a ws).getD i 0) (M := ws.sum - 1) fun k hk => (rest_bd hw hs k (firstL_lt k hk)).2
    have h3 := firstL_len ha hw hs
    have h4 := rest_sum (a := a) (ws := ws)
    have h5 : 0 < (firstL a ws).length := List.length_pos_of_mem h
    unfold firstL at h2 h3 h5
    rw [h3] at h2
    have e5 : leftL a ws * (ws.sum - 1) = leftL a ws * ws.sum - leftL a ws := by rw [Int.mul_sub, Int.mul_one]
    omega
theorem share_near (ha : 0 ≤ a) (hw : Wts ws) (hs : ws.sum ≠ 0) (i : Nat) (hi : i < ws.length) : - ws.sum < (shareL a ws).getD i 0 * ws.sum - a * ws.getD i 0 ∧ (shareL a ws).getD i 0 * ws.sum - a * ws.getD i 0 < ws.sum := by
  have h0 := sum_pos hw hs
  have hb := rest_bd (a := a) hw hs i hi
  have hr := restL_at a ws i hi
  have hd := Int.mul_ediv_add_emod (a * ws.getD i 0) ws.sum
  rw [← hr] at hd
  rw [share_at ha hw hs i hi, Int.add_mul]
  have e : a * ws.getD i 0 / ws.sum * ws.sum = ws.sum * (a * ws.getD i 0 / ws.sum) := Int.mul_comm _ _
  split
  · next hm =>
    have hp := first_pos ha hw hs i hm
    omega
  · omega
theorem share_none (ha : 0 ≤ a) (hw : Wts ws) (hs : ws.sum ≠ 0) (i : Nat) (hi : i < ws.length) (hz : ws.getD i 0 = 0) : (shareL a ws).getD i 0 = 0 := by
  rw [share_at ha hw hs i hi, hz]
  have hr := restL_at a ws i hi
  rw [hz] at hr
  split
  · next hm =>
    have hp := first_pos ha hw hs i hm
    rw [hr] at hp
    simp at hp
  · simp
theorem share_mono (ha : 0 ≤ a) (hw : Wts ws) (hs : ws.sum ≠ 0) (i k : Nat) (hi : i < ws.length) (hk : k < ws.length) (hlt : ws.getD k 0 < ws.getD i 0) : (shareL a ws).getD k 0 ≤ (shareL a ws).getD i 0 := by
  have h0 := sum_pos hw hs
  rw [share_at ha hw hs i hi, share_at ha hw hs k hk]
  have hle : a * ws.getD k 0 ≤ a * ws.getD i 0 := Int.mul_le_mul_of_nonneg_left (by omega) ha
  have hq : a * ws.getD k 0 / ws.sum ≤ a * ws.getD i 0 / ws.sum := Int.ediv_le_ediv h0 hle
  have d1 := Int.mul_ediv_add_emod (a * ws.getD i 0) ws.sum
  have d2 := Int.mul_ediv_add_emod (a * ws.getD k 0) ws.sum
  rw [← restL_at a ws i hi] at d1
  rw [← restL_at a ws k hk] at d2
  by_cases hm : k ∈ firstL a ws
  · rw [if_pos hm]
    by_cases hm2 : i ∈ firstL a ws
    · rw [if_pos hm2]; omega
    · rw [if_neg hm2]
      by_cases he : a * ws.getD k 0 / ws.sum = a * ws.getD i 0 / ws.sum
      · exfalso
        have hf := firstL_front i k hi hm2 hm
        have hp := first_pos ha hw hs k hm
        rw [he] at d2
        have hlt2 : a * ws.getD k 0 < a * ws.getD i 0 := by
          rcases Int.lt_or_le 0 a with ha' | ha'
          · exact Int.mul_lt_mul_of_pos_left hlt ha'
          · have : a = 0 := by omega
            have hr := restL_at a ws k hk
            rw [this] at hr hp
            rw [hr] at hp
            simp at hp
        unfold Front at hf
        omega
      · omega
  · rw [if_neg hm]
    split <;> omega
end
end Go.Proofs.Ytobnjagmakhgpaa

/- Bounds on shares. Conditions: a space and weights in their ranges, not all 0. -/
namespace Go.Proofs.Ytobnjagmakhgpaa

section
variable {a : Int} {ws : List Int}
theorem share_le (ha : 0 ≤ a) (hw : Wts ws) (hs : ws.sum ≠ 0) (i : Nat) : 0 ≤ (shareL a ws).getD i 0 ∧ (shareL a ws).getD i 0 ≤ a := by
  have hl : (shareL a ws).length = ws.length := by
    rw [share_hand ha hw hs]
    have h : ∀ (l : List Nat) (o : List Int), (handL l o).length = o.length := fun l => by
      induction l with
      | nil => intro o; rfl
      | cons b l ih => intro o; have e : handL (b :: l) o = handL l (o.set b (o.getD b 0 + 1)) := rfl
                       rw [e, ih]; simp
    rw [h, baseL_len]
  have h0 : ∀ j, j < ws.length → 0 ≤ (shareL a ws).getD j 0 := fun j hj => by
    rw [share_at ha hw hs j hj]
    have h1 := (hw.at_ j).1
    have h2 := Int.ediv_nonneg (Int.mul_nonneg ha h1) (Int.le_of_lt (sum_pos hw hs))
    split <;> omega
  by_cases hi : i < ws.length
  · refine ⟨h0 i hi, ?_⟩
    have hm : (shareL a ws).getD i 0 ∈ shareL a ws := by
      have hi' : i < (shareL a ws).length := by omega
      have e : (shareL a ws).getD i 0 = (shareL a ws)[i] := by simp [hi']
      rw [e]; exact List.getElem_mem hi'
    have h := mem_le_sum (xs := shareL a ws) (fun z hz => by
      obtain ⟨j, hj, rfl⟩ := List.mem_iff_getElem.1 hz
      have h := h0 j (by omega)
      simpa [hj] using h) hm
    rw [share_sum ha hw hs] at h
    exact h
  · have e : (shareL a ws).getD i 0 = 0 := by
      have : (shareL a ws).length ≤ i := by omega
      simp [this]
    rw [e]; omega
theorem share_sml (ha : 0 ≤ a ∧ a ≤ 200000) (hw : Wts ws) (hs : ws.sum ≠ 0) : Sml (shareL a ws) := fun z hz => by
  obtain ⟨j, hj, rfl⟩ := List.mem_iff_getElem.1 hz
  have h := share_le ha.1 hw hs j
  have e : (shareL a ws).getD j 0 = (shareL a ws)[j] := by simp [hj]
  rw [e] at h
  omega
theorem prod_bd {v T : Int} (hv : 0 ≤ v ∧ v ≤ 200000) (hT : 0 ≤ T ∧ T ≤ 8000000000) : 0 ≤ v * T ∧ v * T ≤ 1600000000000000 := by
  refine ⟨Int.mul_nonneg hv.1 hT.1, ?_⟩
  have h1 : v * T ≤ 200000 * T := Int.mul_le_mul_of_nonneg_right hv.2 hT.1
  omega
end
end Go.Proofs.Ytobnjagmakhgpaa

/- Plain facts on sizes that are moved towards their bounds, in rounds. No condition. -/
namespace Go.Proofs.Ytobnjagmakhgpaa
open Go.RowKit

/-- The weights of those that have room. -/
def openL (wt rooms : List Int) : List Int := List.zipWith (fun a r => if r = 0 then 0 else a) wt rooms
/-- By how much each is moved in a round. -/
def stepL (wt rooms : List Int) (a : Int) : List Int := List.zipWith min (shareL a (openL wt rooms)) rooms
def nextL (wt rooms : List Int) (a : Int) : List Int := List.zipWith (· - ·) rooms (stepL wt rooms a)
/-- The room that is left in the end. -/
def finL (wt rooms : List Int) (a : Int) : List Int :=
  if _h : 0 < (stepL wt rooms a).sum ∧ (nextL wt rooms a).sum = rooms.sum - (stepL wt rooms a).sum ∧ (stepL wt rooms a).sum ≤ rooms.sum then finL wt (nextL wt rooms a) (a - (stepL wt rooms a).sum) else rooms
termination_by rooms.sum.toNat
decreasing_by omega
/-- Weights, rooms and an amount in their ranges. -/
structure Rm (n : Nat) (wt rooms : List Int) (a : Int) : Prop where
  n1 : 1 ≤ n
  n8 : n ≤ 8
  lw : wt.length = n
  lr : rooms.length = n
  wb : ∀ i, i < n → 0 ≤ wt.getD i 0 ∧ wt.getD i 0 ≤ 10
  rb : ∀ i, i < n → 0 ≤ rooms.getD i 0 ∧ rooms.getD i 0 ≤ 10000
  ab : 0 ≤ a ∧ a ≤ 200000
theorem zip_at {f : Int → Int → Int} {xs ys : List Int} {i : Nat} (hx : i < xs.length) (hy : i < ys.length) : (List.zipWith f xs ys).getD i 0 = f (xs.getD i 0) (ys.getD i 0) := by
  have h : i < (List.zipWith f xs ys).length := by rw [List.length_zipWith]; omega
  have e1 : (List.zipWith f xs ys).getD i 0 = (List.zipWith f xs ys)[i] := by rw [List.getD_eq_getElem?_getD, List.getElem?_eq_getElem h]; rfl
  have e2 : xs.getD i 0 = xs[i] := by simp [hx]
  have e3 : ys.getD i 0 = ys[i] := by simp [hy]
  rw [e1, e2, e3, List.getElem_zipWith]
theorem all_at {xs : List Int} {P : Int → Prop} (h : ∀ i, i < xs.length → P (xs.getD i 0)) : ∀ z ∈ xs, P z := fun z hz => by
  obtain ⟨i, hi, rfl⟩ := List.mem_iff_getElem.1 hz
  have e : xs.getD i 0 = xs[i] := by simp [hi]
  rw [← e]; exact h i hi
theorem sum_zip_sub {xs ys : List Int} (h : xs.length = ys.length) : (List.zipWith (· - ·) xs ys).sum = xs.sum - ys.sum := by
  induction xs generalizing ys with
  | nil => cases ys with
    | nil => rfl
    | cons y ys => simp at h
  | cons x xs ih => cases ys with
    | nil => simp at h
    | cons y ys =>
      simp only [List.zipWith_cons_cons, List.sum_cons]
      rw [ih (by simpa using h)]
      omega
theorem sum_mono {xs ys : List Int} (h : xs.length = ys.length) (hle : ∀ i, i < xs.length → xs.getD i 0 ≤ ys.getD i 0) : xs.sum ≤ ys.sum := by
  induction xs generalizing ys with
  | nil => cases ys with
    | nil => exact Int.le_refl _
    | cons y ys => simp at h
  | cons x xs ih => cases ys with
    | nil => simp at h
    | cons y ys =>
      have h0 := hle 0 (by simp)
      have h1 := ih (ys := ys) (by simpa using h) (fun i hi => by have := hle (i + 1) (by simpa using hi); simpa using this)
      simp only [List.sum_cons]
      simp at h0
      omega
section
variable {n : Nat} {wt rooms : List Int} {a : Int}
theorem Rm.lo (h : Rm n wt rooms a) : (openL wt rooms).length = n := by unfold openL; rw [List.length_zipWith, h.lw, h.lr]; omega
theorem Rm.open_at (h : Rm n wt rooms a) {i : Nat} (hi : i < n) : (openL wt rooms).getD i 0 = if rooms.getD i 0 = 0 then 0 else wt.getD i 0 := by
  unfold openL
  rw [zip_at (by rw [h.lw]; exact hi) (by rw [h.lr]; exact hi)]
theorem Rm.open_bd (h : Rm n wt rooms a) : ∀ z ∈ openL wt rooms, 0 ≤ z ∧ z ≤ 10 := all_at (P := fun z => 0 ≤ z ∧ z ≤ 10) fun i hi => by
  rw [h.lo] at hi
  rw [h.open_at hi]
  have := h.wb i hi
  split <;> omega
theorem Rm.wts (h : Rm n wt rooms a) : Wts (openL wt rooms) := fun z hz => by have := h.open_bd z hz; omega
theorem Rm.ok (h : Rm n wt rooms a) : shOk a (openL wt rooms) = true := by
  unfold shOk
  rw [Bool.and_eq_true, decide_eq_true_eq]
  exact ⟨h.ab, rowB_iff.2 ⟨by rw [h.lo]; have := h.n1; have := h.n8; omega, h.wts⟩⟩
theorem Rm.shareA (h : Rm n wt rooms a) : Go.Proofs.Ytobnjagmakhgpaa.shareA a (openL wt rooms) = shareL a (openL wt rooms) := by unfold Go.Proofs.Ytobnjagmakhgpaa.shareA; rw [if_pos h.ok]
theorem Rm.ls (h : Rm n wt rooms a) : (shareL a (openL wt rooms)).length = n := by rw [shareL_len, h.lo]
theorem Rm.share_bd (h : Rm n wt rooms a) (i : Nat) : 0 ≤ (shareL a (openL wt rooms)).getD i 0 ∧ (shareL a (openL wt rooms)).getD i 0 ≤ a := by
  by_cases hs : (openL wt rooms).sum = 0
  · unfold shareL
    rw [if_pos hs]
    by_cases hi : i < (openL wt rooms).length
    · have := h.ab; simp [hi]; omega
    · have := h.ab; simp [Nat.le_of_not_lt hi]; omega
  · exact share_le h.ab.1 h.wts hs i
/-- Who has no room gets no share. -/
theorem Rm.share_room (h : Rm n wt rooms a) {i : Nat} (hi : i < n) (hr : rooms.getD i 0 = 0) : (shareL a (openL wt rooms)).getD i 0 = 0 := by
  by_cases hs : (openL wt rooms).sum = 0
  · unfold shareL
    rw [if_pos hs]
    simp [h.lo, hi]
  · exact share_none h.ab.1 h.wts hs i (by rw [h.lo]; exact hi) (by rw [h.open_at hi, if_pos hr])
theorem Rm.lst (h : Rm n wt rooms a) : (stepL wt rooms a).length = n := by unfold stepL; rw [List.length_zipWith, h.ls, h.lr]; omega
theorem Rm.step_at (h : Rm n wt rooms a) {i : Nat} (hi : i < n) : (stepL wt rooms a).getD i 0 = min ((shareL a (openL wt rooms)).getD i 0) (rooms.getD i 0) := by
  unfold stepL
  rw [zip_at (by rw [h.ls]; exact hi) (by rw [h.lr]; exact hi)]
theorem Rm.ln (h : Rm n wt rooms a) : (nextL wt rooms a).length = n := by unfold nextL; rw [List.length_zipWith, h.lst, h.lr]; omega
theorem Rm.next_at (h : Rm n wt rooms a) {i : Nat} (hi : i < n) : (nextL wt rooms a).getD i 0 = rooms.getD i 0 - (stepL wt rooms a).getD i 0 := by
  unfold nextL
  rw [zip_at (by rw [h.lr]; exact hi) (by rw [h.lst]; exact hi)]
theorem Rm.step_bd (h : Rm n wt rooms a) {i : Nat} (hi : i < n) : 0 ≤ (stepL wt rooms a).getD i 0 ∧ (stepL wt rooms a).getD i 0 ≤ rooms.getD i 0 ∧ (stepL wt rooms a).getD i 0 ≤ (shareL a (openL wt rooms)).getD i 0 := by
  rw [h.step_at hi]
  have h1 := h.share_bd i
  have h2 := h.rb i hi
  omega
theorem Rm.next_sum (h : Rm n wt rooms a) : (nextL wt rooms a).sum = rooms.sum - (stepL wt rooms a).sum := by
  unfold nextL
  exact sum_zip_sub (by rw [h.lr, h.lst])
theorem Rm.share_sum (h : Rm n wt rooms a) : (shareL a (openL wt rooms)).sum ≤ a := by
  by_cases hs : (openL wt rooms).sum = 0
  · unfold shareL
    rw [if_pos hs]
    have := h.ab.1
    simpa using this
  · rw [Go.Proofs.Ytobnjagmakhgpaa.share_sum h.ab.1 h.wts hs]; exact Int.le_refl _
theorem Rm.step_le (h : Rm n wt rooms a) : 0 ≤ (stepL wt rooms a).sum ∧ (stepL wt rooms a).sum ≤ rooms.sum ∧ (stepL wt rooms a).sum ≤ a := by
  refine ⟨sum_nonneg (all_at (P := fun z => 0 ≤ z) fun i hi => (h.step_bd (by rw [h.lst] at hi; exact hi)).1), sum_mono (by rw [h.lst, h.lr]) fun i hi => (h.step_bd (by rw [h.lst] at hi; exact hi)).2.1, ?_⟩
  have h1 : (stepL wt rooms a).sum ≤ (shareL a (openL wt rooms)).sum := sum_mono (by rw [h.lst, h.ls]) fun i hi => (h.step_bd (by rw [h.lst] at hi; exact hi)).2.2
  exact Int.le_trans h1 h.share_sum
theorem Rm.next (h : Rm n wt rooms a) : Rm n wt (nextL wt rooms a) (a - (stepL wt rooms a).sum) := by
  refine ⟨h.n1, h.n8, h.lw, h.ln, h.wb, fun i hi => ?_, ?_⟩
  · rw [h.next_at hi]
    have h1 := h.step_bd hi
    have h2 := h.rb i hi
    omega
  · have := h.step_le
    have := h.ab
    omega
theorem Rm.fin_go (h : Rm n wt rooms a) (hs : (stepL wt rooms a).sum ≠ 0) : finL wt rooms a = finL wt (nextL wt rooms a) (a - (stepL wt rooms a).sum) := by
  have h1 := h.step_le
  rw [finL, dif_pos ⟨by omega, h.next_sum, h1.2.1⟩]
theorem fin_end (hs : (stepL wt rooms a).sum = 0) : finL wt rooms a = rooms := by
  rw [finL, dif_neg (by omega)]
theorem Rm.fin (h : Rm n wt rooms a) : (∃ a', Rm n wt (finL wt rooms a) a') ∧ ∀ i, i < n → (finL wt rooms a).getD i 0 ≤ rooms.getD i 0 := by
  generalize hm : rooms.sum.toNat = m
  induction m using Nat.strongRecOn generalizing rooms a with
  | ind m ih =>
    by_cases hs : (stepL wt rooms a).sum = 0
    · rw [fin_end hs]
      exact ⟨⟨a, h⟩, fun i _ => Int.le_refl _⟩
    · rw [h.fin_go hs]
      have h1 := h.step_le
      have h2 := h.next_sum
      obtain ⟨h3, h4⟩ := ih _ (by omega) h.next rfl
      refine ⟨h3, fun i hi => ?_⟩
      have h5 := h4 i hi
      rw [h.next_at hi] at h5
      have h6 := (h.step_bd hi).1
      omega
/-- Nothing moves exactly if all shares are 0. -/
theorem Rm.still (h : Rm n wt rooms a) : (stepL wt rooms a).sum = 0 ↔ (shareL a (openL wt rooms)).sum = 0 := by
  constructor
  · intro hs
    have hz : ∀ i, i < n → (stepL wt rooms a).getD i 0 = 0 := fun i hi => by
      have h1 := mem_le_sum (xs := stepL wt rooms a) (all_at (P := fun z => 0 ≤ z) fun i hi => (h.step_bd (by rw [h.lst] at hi; exact hi)).1) (y := (stepL wt rooms a).getD i 0) (by
        have hl : i < (stepL wt rooms a).length := by rw [h.lst]; exact hi
        have e : (stepL wt rooms a).getD i 0 = (stepL wt rooms a)[i] := by simp [hl]
        rw [e]; exact List.getElem_mem hl)
      have h2 := (h.step_bd hi).1
      omega
    have hsz : ∀ z ∈ shareL a (openL wt rooms), z = 0 := all_at (P := fun z => z = 0) fun i hi => by
      rw [h.ls] at hi
      have h1 := hz i hi
      rw [h.step_at hi] at h1
      have h2 := h.share_bd i
      have h3 := h.rb i hi
      by_cases hr : rooms.getD i 0 = 0
      · exact h.share_room hi hr
      · omega
    have : shareL a (openL wt rooms) = List.replicate (shareL a (openL wt rooms)).length 0 := List.eq_replicate_iff.2 ⟨rfl, hsz⟩
    rw [this]
    simp
  · intro hs
    have h1 := h.step_le
    have h2 : (stepL wt rooms a).sum ≤ (shareL a (openL wt rooms)).sum := sum_mono (by rw [h.lst, h.ls]) fun i hi => (h.step_bd (by rw [h.lst] at hi; exact hi)).2.2
    omega
end
end Go.Proofs.Ytobnjagmakhgpaa

/- Plain facts on shares: weights three times as large share alike; equal weights share evenly, the greater shares first. Conditions: a space and weights in their ranges, not all 0. -/
namespace Go.Proofs.Ytobnjagmakhgpaa

section
variable {a : Int} {ws : List Int}
theorem sum_map3 (ws : List Int) : (ws.map (3 * ·)).sum = 3 * ws.sum := by
  induction ws with
  | nil => rfl
  | cons x xs ih => simp only [List.map_cons, List.sum_cons]; rw [ih]; omega
theorem base3 : baseL a (ws.map (3 * ·)) = baseL a ws := by
  unfold baseL
  rw [sum_map3, List.map_map]
  apply List.map_congr_left
  intro x _
  show a * (3 * x) / (3 * ws.sum) = a * x / ws.sum
  rw [show a * (3 * x) = 3 * (a * x) by rw [← Int.mul_assoc, Int.mul_comm a 3, Int.mul_assoc]]
  exact Int.mul_ediv_mul_of_pos _ _ (by omega)
theorem rest3 : restL a (ws.map (3 * ·)) = (restL a ws).map (3 * ·) := by
  unfold restL
  rw [sum_map3, List.map_map, List.map_map]
  apply List.map_congr_left
  intro x _
  show a * (3 * x) % (3 * ws.sum) = 3 * (a * x % ws.sum)
  rw [show a * (3 * x) = 3 * (a * x) by rw [← Int.mul_assoc, Int.mul_comm a 3, Int.mul_assoc]]
  exact Int.mul_emod_mul_of_pos _ _ (by omega)
theorem getD_map3 (r : List Int) (i : Nat) : (r.map (3 * ·)).getD i 0 = 3 * r.getD i 0 := by
  by_cases h : i < r.length
  · simp [h]
  · simp [Nat.le_of_not_lt h]
theorem share_scale (ha : 0 ≤ a) (hw : Wts ws) : shareL a (ws.map (3 * ·)) = shareL a ws := by
  by_cases hs : ws.sum = 0
  · unfold shareL
    rw [if_pos hs, if_pos (by rw [sum_map3]; omega)]
    simp
  · rw [share_hand ha hw hs]
    unfold shareL firstL
    rw [if_neg (by rw [sum_map3]; omega)]
    have e : leftL a (ws.map (3 * ·)) = leftL a ws := by unfold leftL; rw [base3]
    rw [e, base3, rest3]
    have h := spin_order (turnsL (restL a ws)) (baseL a ws) ((restL a ws).map (3 * ·)) ((turnsL_front (restL a ws)).imp fun {p q} hf => by
        unfold Front at hf ⊢
        rw [getD_map3, getD_map3]
        omega)
      (fun i hi => (turnsL_perm (restL a ws)).mem_iff.2 (by simpa using hi))
      (fun i hi => by have := (turnsL_perm (restL a ws)).mem_iff.1 hi; simpa using this)
      (fun i hi => by
        rw [getD_map3]
        have := rest_bd (a := a) hw hs i (by simpa [restL_len] using hi)
        omega)
      (leftL a ws).toNat (by
        have h1 := left_le a ws hw hs
        rw [turnsL_len, restL_len]
        omega)
    rw [h]
end
/-- The weights are all one. -/
def onesL (n : Nat) : List Int := List.replicate n 1
theorem ones_sum (n : Nat) : (onesL n).sum = (n : Int) := by unfold onesL; simp
theorem ones_wts (n : Nat) : Wts (onesL n) := fun z hz => by rw [List.eq_of_mem_replicate hz]; omega
theorem ones_at (n i : Nat) (h : i < n) : (onesL n).getD i 0 = 1 := by unfold onesL; simp [h]
theorem ones_len (n : Nat) : (onesL n).length = n := by unfold onesL; simp
section
variable {a : Int} {n : Nat}
theorem even_at (ha : 0 ≤ a) (hn : 0 < n) (i : Nat) (hi : i < n) : (shareL a (onesL n)).getD i 0 = a / (n : Int) + if i ∈ firstL a (onesL n) then 1 else 0 := by
  have h := share_at ha (ones_wts n) (by rw [ones_sum]; omega) i (by rw [ones_len]; exact hi)
  rw [ones_at n i hi, ones_sum, Int.mul_one] at h
  exact h
theorem even_next (ha : 0 ≤ a) (hn : 0 < n) (i : Nat) (hi : i + 1 < n) : (shareL a (onesL n)).getD (i + 1) 0 ≤ (shareL a (onesL n)).getD i 0 := by
  rw [even_at ha hn (i + 1) hi, even_at ha hn i (by omega)]
  by_cases h1 : i + 1 ∈ firstL a (onesL n)
  · by_cases h2 : i ∈ firstL a (onesL n)
    · rw [if_pos h1, if_pos h2]; omega
    · exfalso
      have hf := firstL_front i (i + 1) (by rw [ones_len]; omega) h2 h1
      unfold Front at hf
      rw [restL_at _ _ _ (by rw [ones_len]; omega), restL_at _ _ _ (by rw [ones_len]; omega), ones_at n _ (by omega), ones_at n _ (by omega)] at hf
      omega
  · rw [if_neg h1]
    split <;> omega
theorem even_near (ha : 0 ≤ a) (hn : 0 < n) (i : Nat) (hi : i < n) : (shareL a (onesL n)).getD 0 0 - (shareL a (onesL n)).getD i 0 ≤ 1 := by
  rw [even_at ha hn i hi, even_at ha hn 0 hn]
  split <;> split <;> omega
theorem even_sum (ha : 0 ≤ a) (hn : 0 < n) : (shareL a (onesL n)).sum = a := share_sum ha (ones_wts n) (by rw [ones_sum]; omega)
end
end Go.Proofs.Ytobnjagmakhgpaa
