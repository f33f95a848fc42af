/- Plain facts on marked boxes: how the roots, the boxes in them, and their numbers hang together. No condition. -/
import Derived.Test.YtobnjagmakhgpaaDirtyZ
import Derived.Test.YtobnjagmakhgpaaZF
namespace Go.Proofs.Ytobnjagmakhgpaa
open Go.RowKit

section
variable {n i j k r t : Nat} {zs ms : List Int}
theorem mks_no (h : vtB n zs = false) : marksB n zs ms = false := by unfold marksB; rw [h]; rfl
theorem dbA_no (h : marksB n zs ms = false) : dbA n zs ms = [] := by unfold dbA; rw [h]; rfl
theorem drA_no (h : marksB n zs ms = false) : drA n zs ms = [] := by unfold drA; rw [h]; rfl
theorem dbA_yes (h : marksB n zs ms = true) : dbA n zs ms = (covL n zs ms).map Int.ofNat := by unfold dbA; rw [if_pos h]
theorem drA_yes (h : marksB n zs ms = true) : drA n zs ms = (rootL n zs ms).map Int.ofNat := by unfold drA; rw [if_pos h]
theorem mks_mk (h : vtB n zs = true) (hl : ms.length ≤ 16) (hb : ∀ z ∈ ms, 0 ≤ z ∧ z < (n : Int)) : marksB n zs ms = true := by
  unfold marksB listB
  rw [h, Bool.true_and, Bool.and_eq_true, decide_eq_true_eq]
  exact ⟨by omega, allB_iff.2 fun z hz => by have := hb z hz; omega⟩
theorem cov_all (h : vtB n zs = true) : (dbA n zs [0]).length = n := by
  have h1 := (vtB_iff.1 h).1
  rw [dbA_yes (mks_mk h (by simp) (fun z hz => by rw [List.mem_singleton.1 hz]; omega)), List.length_map]
  have e : covL n zs [0] = List.range n := by
    unfold covL
    refine List.filter_eq_self.2 fun i hi => ?_
    exact (cov_iff (fun z hz => by rw [List.mem_singleton.1 hz]; exact Int.le_refl _)).2 ⟨0, by simp, (link_vt h).root_anc (List.mem_range.1 hi)⟩
  rw [e, List.length_range]
theorem cov_none : (dbA n zs []).length = 0 := by
  unfold dbA
  split
  · rw [List.length_map]
    have e : covL n zs [] = [] := by
      unfold covL
      refine List.filter_eq_nil_iff.2 fun i _ h => ?_
      obtain ⟨z, hz, _⟩ := (cov_iff (ms := []) (by simp)).1 h
      simp at hz
    rw [e]; rfl
  · rfl
theorem root_mem (hr : r ∈ rootL n zs ms) : r < n ∧ drt (mk ms) zs r = some r ∧ mk ms r = true := by
  unfold rootL at hr
  obtain ⟨h1, h2⟩ := List.mem_filter.1 hr
  have h3 := beq_iff_eq.1 h2
  exact ⟨List.mem_range.1 h1, h3, (drt_some h3).1⟩
theorem mem_root (h : r < n) (h2 : drt (mk ms) zs r = some r) : r ∈ rootL n zs ms := List.mem_filter.2 ⟨List.mem_range.2 h, beq_iff_eq.2 h2⟩
theorem drA_at (h : marksB n zs ms = true) (ht : t < (drA n zs ms).length) : ∃ u : Nat, (drA n zs ms).getD t 0 = (u : Int) ∧ u < n := by
  rw [drA_yes h] at ht ⊢
  rw [List.length_map] at ht
  refine ⟨(rootL n zs ms)[t], ?_, (root_mem (List.getElem_mem ht)).1⟩
  simp [List.getD_eq_getElem?_getD, ht]
/-- A root is its own root. -/
theorem drt_root (h : drt (mk ms) zs i = some r) : drt (mk ms) zs r = some r := by
  obtain ⟨h1, h2, h3⟩ := drt_some h
  refine drt_is h1 (anc_self _ _) fun a h4 h5 => ?_
  exact h3 a h4 (anc_trans h5 h2)
theorem mk_root (hb : ∀ z ∈ ms, 0 ≤ z ∧ z < (n : Int)) : mk ((rootL n zs ms).map Int.ofNat) i = true ↔ drt (mk ms) zs i = some i := by
  rw [mk_iff, List.mem_map]
  constructor
  · rintro ⟨r, hr, e⟩
    obtain rfl : r = i := Int.ofNat.inj e
    exact (root_mem hr).2.1
  · intro h
    have h1 := hb _ (mk_iff.1 (drt_some h).1)
    exact ⟨i, mem_root (by omega) h, rfl⟩
theorem drt_again (hb : ∀ z ∈ ms, 0 ≤ z ∧ z < (n : Int)) (i : Nat) : drt (mk ((rootL n zs ms).map Int.ofNat)) zs i = drt (mk ms) zs i := by
  cases hd : drt (mk ms) zs i with
  | some r =>
    obtain ⟨h1, h2, h3⟩ := drt_some hd
    refine drt_is ((mk_root hb).2 (drt_root hd)) h2 fun a h4 h5 => ?_
    exact h3 a (drt_some ((mk_root hb).1 h4)).1 h5
  | none =>
    cases hd2 : drt (mk ((rootL n zs ms).map Int.ofNat)) zs i with
    | none => rfl
    | some r =>
      obtain ⟨h1, h2, _⟩ := drt_some hd2
      rw [drt_none hd (drt_some ((mk_root hb).1 h1)).1] at h2
      cases h2
theorem mks_again (h : marksB n zs ms = true) : marksB n zs (drA n zs ms) = true := by
  obtain ⟨hv, _, hb⟩ := mks_at h
  refine mks_mk hv drA_len fun z hz => ?_
  rw [drA_yes h, List.mem_map] at hz
  obtain ⟨r, hr, rfl⟩ := hz
  have := (root_mem hr).1
  exact ⟨Int.natCast_nonneg _, Int.ofNat_lt.2 this⟩
theorem cov_again (h : marksB n zs ms = true) : dbA n zs (drA n zs ms) = dbA n zs ms := by
  rw [dbA_yes (mks_again h), dbA_yes h, drA_yes h]
  congr 1
  exact List.filter_congr fun i _ => by rw [drt_again (mks_at h).2.2]
theorem root_again (h : marksB n zs ms = true) : drA n zs (drA n zs ms) = drA n zs ms := by
  rw [drA_yes (mks_again h), drA_yes h]
  congr 1
  exact List.filter_congr fun i _ => by rw [drt_again (mks_at h).2.2]
/-- How many boxes the first j of some boxes and those in them are. -/
def sumTo (n : Nat) (zs : List Int) (rs : List Int) : Nat → Int
  | 0 => 0
  | j + 1 => sumTo n zs rs j + ((en zs n (rs.getD j 0).toNat : Int) - ((rs.getD j 0).toNat : Int))
theorem sumTo_succ (n : Nat) (zs rs : List Int) (j : Nat) : sumTo n zs rs (j + 1) = sumTo n zs rs j + ((en zs n (rs.getD j 0).toNat : Int) - ((rs.getD j 0).toNat : Int)) := rfl
/-- As many boxes are in a box as their numbers tell. -/
theorem count_in (h : Link zs n) (hr : r < n) : ((List.range n).filter fun i => anc zs r i).length = en zs n r - r := by
  have hb := en_bd (zs := zs) hr
  have key : ∀ m, m ≤ n → ((List.range m).filter fun i => anc zs r i).length = min m (en zs n r) - min m r := by
    intro m
    induction m with
    | zero => intro _; simp
    | succ m ih =>
      intro hm
      rw [List.range_succ, List.filter_append, List.length_append, ih (by omega)]
      by_cases hq : r ≤ m ∧ m < en zs n r
      · have e : anc zs r m = true := (h.in_iff hr (by omega)).2 hq
        simp only [List.filter_cons, e, List.filter_nil, if_true, List.length_singleton]
        omega
      · have e : anc zs r m = false := by
          cases hh : anc zs r m with
          | false => rfl
          | true => exact absurd ((h.in_iff hr (by omega)).1 hh) hq
        simp only [List.filter_cons, e, List.filter_nil]
        simp
        omega
  rw [key n (Nat.le_refl _)]
  omega
theorem filt_sum (rs : List Nat) (hd : rs.Pairwise (· ≠ ·)) (f : Nat → Option Nat) (l : List Nat) (hf : ∀ i ∈ l, ∀ r, f i = some r → r ∈ rs) :
    (l.filter fun i => (f i).isSome).length = (rs.map fun r => (l.filter fun i => f i == some r).length).sum := by
  induction l with
  | nil =>
    clear hd hf
    induction rs with
    | nil => rfl
    | cons b rs ihr => simpa using ihr
  | cons a l ih =>
    have ih' := ih (fun i hi => hf i (List.mem_cons_of_mem _ hi))
    cases ha : f a with
    | none =>
      rw [List.filter_cons_of_neg (by rw [ha]; simp), ih']
      congr 1
      refine List.map_congr_left fun r _ => ?_
      rw [List.filter_cons_of_neg (by rw [ha]; simp)]
    | some q =>
      have hq := hf a List.mem_cons_self q ha
      rw [List.filter_cons_of_pos (by rw [ha]; rfl), List.length_cons, ih']
      clear ih ih' hf
      induction rs with
      | nil => simp at hq
      | cons b rs ihr =>
        obtain ⟨hb, hd'⟩ := List.pairwise_cons.1 hd
        simp only [List.map_cons, List.sum_cons]
        by_cases e : b = q
        · subst e
          rw [List.filter_cons_of_pos (by rw [ha]; simp), List.length_cons]
          have e2 : (rs.map fun r => ((a :: l).filter fun i => f i == some r).length) = rs.map fun r => (l.filter fun i => f i == some r).length := by
            refine List.map_congr_left fun r hr => ?_
            rw [List.filter_cons_of_neg (by rw [ha]; simpa using hb r hr)]
          rw [e2]; omega
        · rw [List.filter_cons_of_neg (by rw [ha]; simpa using fun h => e h.symm)]
          have := ihr hd' (by rcases List.mem_cons.1 hq with h | h; exact absurd h.symm e; exact h)
          omega
theorem rootL_ne : (rootL n zs ms).Pairwise (· ≠ ·) := (List.nodup_range (n := n)).filter _
theorem sumTo_all (rs : List Nat) (f : Nat → Nat) (h : ∀ r ∈ rs, (en zs n r : Int) - (r : Int) = (f r : Int)) : ∀ j, j ≤ rs.length → sumTo n zs (rs.map Int.ofNat) j = (((rs.take j).map f).sum : Nat) := by
  intro j
  induction j with
  | zero => intro _; simp [sumTo]
  | succ j ih =>
    intro hj
    have hj' : j < rs.length := by omega
    rw [sumTo_succ, ih (by omega), List.take_add_one, List.map_append, List.sum_append]
    have e : (rs.map Int.ofNat).getD j 0 = ((rs[j] : Nat) : Int) := by simp [List.getD_eq_getElem?_getD, hj']
    rw [e, Int.toNat_natCast, h _ (List.getElem_mem hj'), List.getElem?_eq_getElem hj']
    simp
theorem cov_len (h : marksB n zs ms = true) : (covL n zs ms).length = ((rootL n zs ms).map fun r => en zs n r - r).sum := by
  obtain ⟨hv, _, hb⟩ := mks_at h
  have h1 := filt_sum (rootL n zs ms) rootL_ne (drt (mk ms) zs) (List.range n) (fun i hi r hr => mem_root (by have := drt_le hr; have := List.mem_range.1 hi; omega) (drt_root hr))
  unfold covL
  rw [h1]
  congr 1
  refine List.map_congr_left fun r hr => ?_
  obtain ⟨hn, hd, hm⟩ := root_mem hr
  rw [← count_in (link_vt hv) hn]
  congr 1
  refine List.filter_congr fun i _ => ?_
  rw [Bool.eq_iff_iff, beq_iff_eq]
  constructor
  · intro h2; exact (drt_some h2).2.1
  · intro h2
    refine drt_is hm h2 fun a h3 h4 => ?_
    rcases Nat.le_total r a with h5 | h5
    · exact anc_chain h2 h4 h5
    · exact (drt_some hd).2.2 a h3 (anc_chain h4 h2 h5)
theorem cov_sum (_hv : vtB n zs = true) (h : marksB n zs ms = true) : sumTo n zs (drA n zs ms) (drA n zs ms).length = ((dbA n zs ms).length : Int) := by
  rw [drA_yes h, dbA_yes h, List.length_map, List.length_map, sumTo_all (rootL n zs ms) (fun r => en zs n r - r) (fun r hr => by have := en_bd (zs := zs) (root_mem hr).1; omega) _ (Nat.le_refl _), List.take_length, cov_len h]
theorem sumTo_bd (_hv : vtB n zs = true) (h : marksB n zs ms = true) (j : Nat) : 0 ≤ sumTo n zs (drA n zs ms) j ∧ sumTo n zs (drA n zs ms) j ≤ 16 * (j : Int) := by
  have hn := (vtB_iff.1 (mks_at h).1).1
  induction j with
  | zero => simp [sumTo]
  | succ j ih =>
    rw [sumTo_succ]
    by_cases hj : j < (drA n zs ms).length
    · obtain ⟨u, hu, hun⟩ := drA_at h hj
      rw [hu, Int.toNat_natCast]
      have := en_bd (zs := zs) hun
      omega
    · have e : (drA n zs ms).getD j 0 = 0 := by
        rw [List.getD_eq_getElem?_getD, List.getElem?_eq_none (by omega)]; rfl
      rw [e]
      have := en_bd (zs := zs) (k := n) (a := 0) (by omega)
      simp
      omega
theorem root_zero (hv : vtB n zs = true) (hl : ms.length ≤ 15) (hb : ∀ z ∈ ms, 0 ≤ z ∧ z < (n : Int)) : drA n zs (ms ++ [0]) = [0] := by
  have hn := (vtB_iff.1 hv).1
  have hb2 : ∀ z ∈ ms ++ [0], 0 ≤ z ∧ z < (n : Int) := fun z hz => by
    rcases List.mem_append.1 hz with h | h
    · exact hb z h
    · rw [List.mem_singleton.1 h]; omega
  rw [drA_yes (mks_mk hv (by rw [List.length_append]; simp; omega) hb2)]
  have e : rootL n zs (ms ++ [0]) = (List.range n).filter (fun i => i == 0) := by
    refine List.filter_congr fun i hi => ?_
    have hin := List.mem_range.1 hi
    rw [Bool.eq_iff_iff, beq_iff_eq, beq_iff_eq, root_iff (fun z hz => (hb2 z hz).1)]
    constructor
    · rintro ⟨_, h⟩
      rcases h 0 (by simp) with h1 | h1
      · omega
      · rw [show (0 : Int).toNat = 0 from rfl, (link_vt hv).root_anc hin] at h1; cases h1
    · rintro rfl
      refine ⟨mk_iff.2 (by simp), fun z hz => ?_⟩
      cases ha : anc zs z.toNat 0 with
      | false => exact .inr rfl
      | true => have := anc_le ha; have := hb2 z hz; exact .inl (by omega)
  rw [e]
  obtain ⟨k, rfl⟩ : ∃ k, n = k + 1 := ⟨n - 1, by omega⟩
  rw [List.range_succ_eq_map, List.filter_cons_of_pos (by rfl), List.filter_eq_nil_iff.2 (fun x hx => by obtain ⟨y, _, rfl⟩ := List.mem_map.1 hx; simp)]
  rfl
theorem root_get (h : marksB n zs ms = true) (ht : t < (drA n zs ms).length) : ∃ u : Nat, (drA n zs ms).getD t 0 = (u : Int) ∧ u ∈ rootL n zs ms ∧ ∃ h : t < (rootL n zs ms).length, (rootL n zs ms)[t] = u := by
  rw [drA_yes h] at ht ⊢
  rw [List.length_map] at ht
  exact ⟨(rootL n zs ms)[t], by simp [List.getD_eq_getElem?_getD, ht], List.getElem_mem ht, ht, rfl⟩
theorem root_marked (h : marksB n zs ms = true) (ht : t < (drA n zs ms).length) : mk ms ((drA n zs ms).getD t 0).toNat = true := by
  obtain ⟨u, hu, hm, _⟩ := root_get h ht
  rw [hu, Int.toNat_natCast]
  exact (root_mem hm).2.2
theorem root_apart {u : Nat} (h : marksB n zs ms = true) (ht : t < (drA n zs ms).length) (hu : u < (drA n zs ms).length) (hn : t ≠ u) : anc zs ((drA n zs ms).getD t 0).toNat ((drA n zs ms).getD u 0).toNat = false := by
  obtain ⟨a, ha, hma, la, ea⟩ := root_get h ht
  obtain ⟨b, hb, hmb, lb, eb⟩ := root_get h hu
  rw [ha, hb, Int.toNat_natCast, Int.toNat_natCast]
  have hab : a ≠ b := by
    rw [← ea, ← eb]
    intro e
    exact hn ((List.getElem_inj (rootL_ne (n := n) (zs := zs) (ms := ms))).1 e)
  cases hh : anc zs a b with
  | false => rfl
  | true =>
    have h1 := (drt_some (root_mem hmb).2.1).2.2 a (root_mem hma).2.2 hh
    have := anc_le h1
    have := anc_le hh
    omega
theorem root_covers (h : marksB n zs ms = true) (hk : k < ms.length) : ∃ q, q < (drA n zs ms).length ∧ anc zs ((drA n zs ms).getD q 0).toNat (ms.getD k 0).toNat = true := by
  obtain ⟨_, _, hb⟩ := mks_at h
  have hz := hb _ (getD_in hk)
  have hm : mk ms (ms.getD k 0).toNat = true := mk_iff.2 (by rw [Int.toNat_of_nonneg hz.1]; exact getD_in hk)
  cases hd : drt (mk ms) zs (ms.getD k 0).toNat with
  | none => have := drt_none hd hm; rw [anc_self] at this; cases this
  | some r =>
    have h1 := mem_root (n := n) (by have := drt_le hd; omega) (drt_root hd)
    obtain ⟨q, hq, e⟩ := List.getElem_of_mem h1
    refine ⟨q, by rw [drA_yes h, List.length_map]; exact hq, ?_⟩
    rw [drA_yes h]
    have e2 : ((rootL n zs ms).map Int.ofNat).getD q 0 = (r : Int) := by simp [List.getD_eq_getElem?_getD, hq, e]
    rw [e2, Int.toNat_natCast]
    exact (drt_some hd).2.1
end
end Go.Proofs.Ytobnjagmakhgpaa
