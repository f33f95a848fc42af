/- Plain facts on shares: who gets one more; that shares add up to the space; that each is within one of the exact share; that more weight never gets less. Conditions: a space and weights in their ranges, not all 0. -/
import Derived.Test.YtnipnemhbelcaaaShareO
namespace Go.Proofs.Ytnipnemhbelcaaa

theorem perm_sum {l l' : List Int} (h : l.Perm l') : l.sum = l'.sum := by
  induction h with
  | nil => rfl
  | cons x _ ih => simp [ih]
  | swap x y l => simp; omega
  | trans _ _ h1 h2 => exact h1.trans h2
theorem map_getD (r : List Int) : (List.range r.length).map (fun i => r.getD i 0) = r := by
  apply List.ext_getElem
  · simp
  · intro i h1 h2
    simp at h1
    simp [h1]
theorem sum_le_mul {l : List Nat} {f : Nat → Int} {M : Int} (h : ∀ i ∈ l, f i ≤ M) : (l.map f).sum ≤ (l.length : Int) * M := by
  induction l with
  | nil => simp
  | cons a l ih =>
    have h1 := h a (by simp)
    have h2 := ih fun i hi => h i (by simp [hi])
    have e : ((l.length + 1 : Nat) : Int) * M = (l.length : Int) * M + M := by rw [Int.natCast_add, Int.add_mul]; simp
    simp only [List.map_cons, List.sum_cons, List.length_cons]
    omega
theorem sum_zero {l : List Nat} {f : Nat → Int} (h : ∀ i ∈ l, f i = 0) : (l.map f).sum = 0 := by
  induction l with
  | nil => rfl
  | cons a l ih =>
    simp only [List.map_cons, List.sum_cons]
    rw [h a (by simp), ih fun i hi => h i (by simp [hi])]
    rfl
theorem sum_set1 (o : List Int) (k : Nat) (hk : k < o.length) : (o.set k (o.getD k 0 + 1)).sum = o.sum + 1 := by
  induction o generalizing k with
  | nil => simp at hk
  | cons x o ih =>
    cases k with
    | zero => simp; omega
    | succ k =>
      have h := ih k (by simpa using hk)
      simp only [List.getD_cons_succ, List.set_cons_succ, List.sum_cons]
      omega
theorem handL_sum (l : List Nat) (o : List Int) (h : ∀ i ∈ l, i < o.length) : (handL l o).sum = o.sum + (l.length : Int) := by
  induction l generalizing o with
  | nil => simp [handL]
  | cons a l ih =>
    have h1 := sum_set1 o a (h a (by simp))
    have h2 := ih (o.set a (o.getD a 0 + 1)) (fun i hi => by simpa using h i (by simp [hi]))
    have e : handL (a :: l) o = handL l (o.set a (o.getD a 0 + 1)) := rfl
    rw [e, h2, h1]
    simp; omega
theorem handL_at (l : List Nat) (hl : l.Nodup) (o : List Int) (i : Nat) (hi : i < o.length) : (handL l o).getD i 0 = o.getD i 0 + if i ∈ l then 1 else 0 := by
  induction l generalizing o with
  | nil => simp [handL]
  | cons a l ih =>
    have e : handL (a :: l) o = handL l (o.set a (o.getD a 0 + 1)) := rfl
    rw [e, ih (List.nodup_cons.1 hl).2 _ (by simpa using hi), getD_set _ _ _ _ hi]
    by_cases ha : a = i
    · subst ha
      have hn := (List.nodup_cons.1 hl).1
      rw [if_pos rfl, if_neg hn, if_pos (by simp)]
      omega
    · rw [if_neg ha]
      by_cases hm : i ∈ l
      · rw [if_pos hm, if_pos (by simp [hm])]
      · rw [if_neg hm, if_neg (by simp [hm]; omega)]
/-- Who gets one more. -/
def firstL (a : Int) (ws : List Int) : List Nat := (turnsL (restL a ws)).take (leftL a ws).toNat
section
variable {a : Int} {ws : List Int}
theorem sum_pos (hw : Wts ws) (hs : ws.sum ≠ 0) : 0 < ws.sum := by
  have := sum_nonneg (xs := ws) fun z hz => (hw z hz).1
  omega
theorem rest_bd (hw : Wts ws) (hs : ws.sum ≠ 0) (i : Nat) (hi : i < ws.length) : 0 ≤ (restL a ws).getD i 0 ∧ (restL a ws).getD i 0 ≤ ws.sum - 1 := by
  rw [restL_at a ws i hi]
  have h0 := sum_pos hw hs
  have h1 := Int.emod_nonneg (a * ws.getD i 0) (show ws.sum ≠ 0 from hs)
  have h2 := Int.emod_lt_of_pos (a * ws.getD i 0) h0
  omega
theorem share_hand (ha : 0 ≤ a) (hw : Wts ws) (hs : ws.sum ≠ 0) : shareL a ws = handL (firstL a ws) (baseL a ws) := by
  unfold shareL firstL
  rw [if_neg hs]
  have h1 := base_le a ws ha hw hs
  have h2 := left_le a ws hw hs
  have h0 : 0 ≤ leftL a ws := by unfold leftL; omega
  exact spin_turns _ _ (fun i hi => (rest_bd hw hs i (by rw [restL_len] at hi; exact hi)).1) _ (by rw [restL_len]; omega)
theorem firstL_len (ha : 0 ≤ a) (hw : Wts ws) (hs : ws.sum ≠ 0) : ((firstL a ws).length : Int) = leftL a ws := by
  unfold firstL
  have h1 := base_le a ws ha hw hs
  have h2 := left_le a ws hw hs
  have h0 : 0 ≤ leftL a ws := by unfold leftL; omega
  rw [List.length_take, turnsL_len, restL_len]
  omega
theorem firstL_lt (i : Nat) (h : i ∈ firstL a ws) : i < ws.length := by
  have h1 := (turnsL_perm (restL a ws)).mem_iff.1 (List.mem_of_mem_take h)
  rw [List.mem_range, restL_len] at h1
  exact h1
theorem firstL_nodup : (firstL a ws).Nodup :=
  List.Nodup.sublist (List.take_sublist _ _) ((turnsL_perm (restL a ws)).nodup_iff.2 List.nodup_range)
theorem firstL_front (i j : Nat) (hi : i < ws.length) (hn : i ∉ firstL a ws) (hj : j ∈ firstL a ws) : Front (restL a ws) j i := by
  have h1 : i ∈ turnsL (restL a ws) := (turnsL_perm (restL a ws)).mem_iff.2 (by rw [List.mem_range, restL_len]; exact hi)
  have e := (List.take_append_drop (leftL a ws).toNat (turnsL (restL a ws))).symm
  rw [e] at h1
  have hd : i ∈ (turnsL (restL a ws)).drop (leftL a ws).toNat := by
    rcases List.mem_append.1 h1 with h | h
    · exact absurd h hn
    · exact h
  have hp := turnsL_front (restL a ws)
  rw [e] at hp
  exact (List.pairwise_append.1 hp).2.2 j hj i hd
theorem share_sum (ha : 0 ≤ a) (hw : Wts ws) (hs : ws.sum ≠ 0) : (shareL a ws).sum = a := by
  rw [share_hand ha hw hs, handL_sum _ _ (fun i h => by rw [baseL_len]; exact firstL_lt i h), firstL_len ha hw hs]
  unfold leftL
  omega
theorem share_at (ha : 0 ≤ a) (hw : Wts ws) (hs : ws.sum ≠ 0) (i : Nat) (hi : i < ws.length) : (shareL a ws).getD i 0 = a * ws.getD i 0 / ws.sum + if i ∈ firstL a ws then 1 else 0 := by
  rw [share_hand ha hw hs, handL_at _ firstL_nodup _ _ (by rw [baseL_len]; exact hi), baseL_at a ws i hi]
theorem split_sum (s : Int) (xs : List Int) : a * xs.sum = (xs.map fun x => a * x / s).sum * s + (xs.map fun x => a * x % s).sum := by
  induction xs with
  | nil => simp
  | cons x xs ih =>
    have h := Int.mul_ediv_add_emod (a * x) s
    have e : a * x / s * s = s * (a * x / s) := Int.mul_comm _ _
    simp only [List.map_cons, List.sum_cons, Int.add_mul, Int.mul_add]
    omega
theorem rest_sum : (restL a ws).sum = leftL a ws * ws.sum := by
  have h := split_sum (a := a) ws.sum ws
  have e : (baseL a ws).sum = (ws.map fun x => a * x / ws.sum).sum := rfl
  have e2 : (restL a ws).sum = (ws.map fun x => a * x % ws.sum).sum := rfl
  unfold leftL
  rw [e2, Int.sub_mul, e]
  omega
/-- Who gets one more has a rest. -/
theorem first_pos (ha : 0 ≤ a) (hw : Wts ws) (hs : ws.sum ≠ 0) (i : Nat) (h : i ∈ firstL a ws) : 0 < (restL a ws).getD i 0 := by
  have hi := firstL_lt i h
  have hb := rest_bd (a := a) hw hs i hi
  rcases Int.lt_or_le 0 ((restL a ws).getD i 0) with h1 | h1
  · exact h1
  · exfalso
    have hz : ∀ k ∈ (turnsL (restL a ws)).drop (leftL a ws).toNat, (restL a ws).getD k 0 = 0 := fun k hk => by
      have hkm := (turnsL_perm (restL a ws)).mem_iff.1 (List.mem_of_mem_drop hk)
      rw [List.mem_range, restL_len] at hkm
      have hp := turnsL_front (restL a ws)
      rw [← List.take_append_drop (leftL a ws).toNat (turnsL (restL a ws))] at hp
      have hf := (List.pairwise_append.1 hp).2.2 i h k hk
      have hb2 := rest_bd (a := a) hw hs k hkm
      unfold Front at hf
      omega
    have e1 : ((turnsL (restL a ws)).map fun i => (restL a ws).getD i 0).sum = (restL a ws).sum := by
      rw [perm_sum ((turnsL_perm (restL a ws)).map fun i => (restL a ws).getD i 0), map_getD]
    rw [← List.take_append_drop (leftL a ws).toNat (turnsL (restL a ws)), List.map_append, List.sum_append, sum_zero hz] at e1
    have h2 := sum_le_mul (l := firstL a ws) (f := fun i => (restL a ws).getD i 0) (M := ws.sum - 1) fun k hk => (rest_bd hw hs k (firstL_lt k hk)).2
    have h3 := firstL_len ha hw hs
    have h4 := rest_sum (a := a) (ws := ws)
    have h5 : 0 < (firstL a ws).length := List.length_pos_of_mem h
    unfold firstL at h2 h3 h5
    rw [h3] at h2
    have e5 : leftL a ws * (ws.sum - 1) = leftL a ws * ws.sum - leftL a ws := by rw [Int.mul_sub, Int.mul_one]
    omega
theorem share_near (ha : 0 ≤ a) (hw : Wts ws) (hs : ws.sum ≠ 0) (i : Nat) (hi : i < ws.length) : - ws.sum < (shareL a ws).getD i 0 * ws.sum - a * ws.getD i 0 ∧ (shareL a ws).getD i 0 * ws.sum - a * ws.getD i 0 < ws.sum := by
  have h0 := sum_pos hw hs
  have hb := rest_bd (a := a) hw hs i hi
  have hr := restL_at a ws i hi
  have hd := Int.mul_ediv_add_emod (a * ws.getD i 0) ws.sum
  rw [← hr] at hd
  rw [share_at ha hw hs i hi, Int.add_mul]
  have e : a * ws.getD i 0 / ws.sum * ws.sum = ws.sum * (a * ws.getD i 0 / ws.sum) := Int.mul_comm _ _
  split
  · next hm =>
    have hp := first_pos ha hw hs i hm
    omega
  · omega
theorem share_none (ha : 0 ≤ a) (hw : Wts ws) (hs : ws.sum ≠ 0) (i : Nat) (hi : i < ws.length) (hz : ws.getD i 0 = 0) : (shareL a ws).getD i 0 = 0 := by
  rw [share_at ha hw hs i hi, hz]
  have hr := restL_at a ws i hi
  rw [hz] at hr
  split
  · next hm =>
    have hp := first_pos ha hw hs i hm
    rw [hr] at hp
    simp at hp
  · simp
theorem share_mono (ha : 0 ≤ a) (hw : Wts ws) (hs : ws.sum ≠ 0) (i k : Nat) (hi : i < ws.length) (hk : k < ws.length) (hlt : ws.getD k 0 < ws.getD i 0) : (shareL a ws).getD k 0 ≤ (shareL a ws).getD i 0 := by
  have h0 := sum_pos hw hs
  rw [share_at ha hw hs i hi, share_at ha hw hs k hk]
  have hle : a * ws.getD k 0 ≤ a * ws.getD i 0 := Int.mul_le_mul_of_nonneg_left (by omega) ha
  have hq : a * ws.getD k 0 / ws.sum ≤ a * ws.getD i 0 / ws.sum := Int.ediv_le_ediv h0 hle
  have d1 := Int.mul_ediv_add_emod (a * ws.getD i 0) ws.sum
  have d2 := Int.mul_ediv_add_emod (a * ws.getD k 0) ws.sum
  rw [← restL_at a ws i hi] at d1
  rw [← restL_at a ws k hk] at d2
  by_cases hm : k ∈ firstL a ws
  · rw [if_pos hm]
    by_cases hm2 : i ∈ firstL a ws
    · rw [if_pos hm2]; omega
    · rw [if_neg hm2]
      by_cases he : a * ws.getD k 0 / ws.sum = a * ws.getD i 0 / ws.sum
      · exfalso
        have hf := firstL_front i k hi hm2 hm
        have hp := first_pos ha hw hs k hm
        rw [he] at d2
        have hlt2 : a * ws.getD k 0 < a * ws.getD i 0 := by
          rcases Int.lt_or_le 0 a with ha' | ha'
          · exact Int.mul_lt_mul_of_pos_left hlt ha'
          · have : a = 0 := by omega
            have hr := restL_at a ws k hk
            rw [this] at hr hp
            rw [hr] at hp
            simp at hp
        unfold Front at hf
        omega
      · omega
  · rw [if_neg hm]
    split <;> omega
end
end Go.Proofs.Ytnipnemhbelcaaa
