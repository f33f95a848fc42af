/- Plain facts on valid trees: a beginning of a valid tree is one; how many boxes are in a box and how deep; the boxes directly in a box one behind the other. No condition. -/
import Derived.Test.YtffggmjhaaehlaaGreatDoorTreeE
namespace Go.Proofs.YtffggmjhaaehlaaGreatDoor
open Go.RowKit

/-- Two lists have the same first m boxes. -/
def SameTo (ys zs : List Int) (m : Nat) : Prop := ∀ i, i < m * 9 → ys.getD i 0 = zs.getD i 0
section
variable {zs ys : List Int} {a i j k m n p t : Nat}
theorem SameTo.par (h : SameTo ys zs m) (hi : i < m) : par ys i = par zs i := h _ (by omega)
theorem SameTo.knd (h : SameTo ys zs m) (hi : i < m) : knd ys i = knd zs i := h _ (by omega)
theorem SameTo.anc (h : SameTo ys zs m) (hi : i < m) : anc ys a i = anc zs a i := by
  induction i using Nat.strongRecOn with
  | ind i ih =>
    by_cases hn : i = a
    · subst hn; rw [anc_self, anc_self]
    · rcases par_cases zs i with ⟨p, e, hp⟩ | h2
      · rw [anc_par e hp hn, anc_par ((h.par hi).trans e) hp hn]
        exact ih p hp (by omega)
      · rw [anc_top h2 hn, anc_top (by rw [h.par hi]; exact h2) hn]
theorem SameTo.dep (h : SameTo ys zs m) (hi : i < m) : dep ys i = dep zs i := by
  induction i using Nat.strongRecOn with
  | ind i ih =>
    rcases par_cases zs i with ⟨p, e, hp⟩ | h2
    · rw [dep_par e hp, dep_par ((h.par hi).trans e) hp, ih p hp (by omega)]
    · rw [dep.eq_1 ys, dif_neg (by rw [h.par hi]; exact h2), dep.eq_1 zs, dif_neg h2]
theorem SameTo.kids (h : SameTo ys zs m) (hk : k ≤ m) : kidL ys k a = kidL zs k a :=
  List.filter_congr fun i hi => by rw [h.par (by have := List.mem_range.1 hi; omega)]
theorem SameTo.box (h : SameTo ys zs m) (hi : i < m) (hb : BoxP zs i) : BoxP ys i := by
  unfold BoxP Go.Proofs.YtffggmjhaaehlaaGreatDoor.knd at *
  rw [h (i * 9 + 1) (by omega), h (i * 9 + 2) (by omega), h (i * 9 + 3) (by omega), h (i * 9 + 4) (by omega), h (i * 9 + 5) (by omega), h (i * 9 + 6) (by omega), h (i * 9 + 7) (by omega), h (i * 9 + 8) (by omega)]
  exact hb
theorem SameTo.place (h : SameTo ys zs m) (hi : i < m) (hb : PlaceP zs i) : PlaceP ys i := by
  rcases Nat.eq_zero_or_pos i with h0 | h0
  · subst h0
    unfold PlaceP
    rw [if_pos rfl, h.par hi]
    exact hb.zero
  · obtain ⟨p, e, hp, h1, h2, h3, h4⟩ := hb.pos h0
    unfold PlaceP
    rw [if_neg (by omega), h.par hi, e, Int.toNat_natCast, h.anc (by omega), h.knd (by omega), h.kids (by omega), h.dep (by omega)]
    exact ⟨⟨by omega, hp⟩, h1, h2, h3, h4⟩
theorem vt_pref (h : vtB n zs = true) (h1 : 1 ≤ m) (hm : m ≤ n) (hs : SameTo ys zs m) : vtB m ys = true := by
  obtain ⟨h2, h3⟩ := vtB_iff.1 h
  exact vtB_iff.2 ⟨by omega, fun i hi => ⟨hs.box hi (h3 i (by omega)).1, hs.place hi (h3 i (by omega)).2⟩⟩
theorem take_same (zs : List Int) (m : Nat) : SameTo (zs.take (m * 9)) zs m := fun i hi => by
  rw [List.getD_eq_getElem?_getD, List.getElem?_take_of_lt hi, ← List.getD_eq_getElem?_getD]
theorem kids_le (h : vtB n zs = true) : (kidL zs n a).length ≤ 8 := by
  by_cases hk : kidL zs n a = []
  · rw [hk]; exact Nat.zero_le _
  · obtain ⟨l, h1, h2, h3⟩ := kid_last hk
    obtain ⟨_, h4⟩ := vtB_iff.1 h
    rcases Nat.eq_zero_or_pos l with h0 | h0
    · subst h0; have := (h4 0 h1).2.zero; omega
    · obtain ⟨p, e, hp, _, _, h5, _⟩ := (h4 l h1).2.pos h0
      obtain rfl : p = a := by omega
      omega
theorem dep_le5 (h : vtB n zs = true) (hi : i < n) : dep zs i ≤ 5 := by
  obtain ⟨_, h4⟩ := vtB_iff.1 h
  rcases Nat.eq_zero_or_pos i with h0 | h0
  · subst h0; rw [dep_top (by have := (h4 0 hi).2.zero; omega)]; omega
  · obtain ⟨p, e, hp, _, _, _, h5⟩ := (h4 i hi).2.pos h0
    rw [dep_par e hp]; omega
theorem kid_kind (h : vtB n zs = true) (hj : j ∈ kidL zs n a) : knd zs a ≠ 0 := by
  obtain ⟨_, h4⟩ := vtB_iff.1 h
  obtain ⟨h1, h2⟩ := kid_mem.1 hj
  obtain ⟨h3, _⟩ := (link_vt h).not_kid h1 h2
  obtain ⟨p, e, hp, _, h5, _⟩ := (h4 j h1).2.pos h3
  obtain rfl : p = a := by omega
  exact h5
theorem kid_pref (hi : i < n) (e : par zs i = (a : Int)) : ∃ rest, kidL zs n a = kidL zs i a ++ i :: rest := by
  induction n with
  | zero => omega
  | succ n ih =>
    rw [kid_succ]
    rcases Nat.lt_or_ge i n with h1 | h1
    · obtain ⟨r, hr⟩ := ih h1
      split
      · exact ⟨r ++ [n], by rw [hr]; simp⟩
      · exact ⟨r, hr⟩
    · obtain rfl : i = n := by omega
      rw [if_pos e]
      exact ⟨[], rfl⟩
theorem kid_nth (hi : i < n) (e : par zs i = (a : Int)) : (kidL zs i a).length < (kidL zs n a).length ∧ (kidL zs n a).getD (kidL zs i a).length 0 = i := by
  obtain ⟨r, hr⟩ := kid_pref hi e
  rw [hr]
  refine ⟨by simp, by simp [List.getD_eq_getElem?_getD]⟩
theorem kid_at (n : Nat) (zs : List Int) (a t : Nat) : ((kidL zs n a).map Int.ofNat).getD t 0 = (((kidL zs n a).getD t 0 : Nat) : Int) := by
  rw [List.getD_eq_getElem?_getD, List.getD_eq_getElem?_getD, List.getElem?_map]
  cases (kidL zs n a)[t]? <;> rfl
theorem kid_get (ht : t < (kidL zs n a).length) : (kidL zs n a).getD t 0 ∈ kidL zs n a := by
  rw [List.getD_eq_getElem?_getD, List.getElem?_eq_getElem ht]
  exact List.getElem_mem ht
theorem kid_next (h : Link zs n) (ha : a < n) (ht : t < (kidL zs n a).length) : en zs n ((kidL zs n a).getD t 0) = if t + 1 < (kidL zs n a).length then (kidL zs n a).getD (t + 1) 0 else en zs n a := by
  have hs : kidL zs n a = (kidL zs n a).take t ++ (kidL zs n a).getD t 0 :: (kidL zs n a).drop (t + 1) := by
    rw [List.getD_eq_getElem?_getD, List.getElem?_eq_getElem ht]
    simp
  rw [h.next_kid ha hs, List.head?_drop]
  split
  · rw [List.getD_eq_getElem?_getD, List.getElem?_eq_getElem (by assumption)]; rfl
  · rw [List.getElem?_eq_none (by omega)]; rfl
theorem kid_first (h : Link zs n) (ha : a < n) : (if 0 < (kidL zs n a).length then (kidL zs n a).getD 0 0 else en zs n a) = a + 1 := by
  cases hk : kidL zs n a with
  | nil => simp; exact h.no_kid ha hk
  | cons j r => simp; exact h.first_kid ha hk
theorem en_root (h : Link zs n) (hn : 0 < n) : en zs n 0 = n := by
  have h1 := en_bd (zs := zs) (k := n) (a := 0) hn
  rcases Nat.lt_or_ge (en zs n 0) n with h2 | h2
  · have := (h.in_iff hn h2).1 (h.root_anc h2)
    omega
  · omega
/-- The boxes of a valid tree are numbered from 0. -/
theorem par_bd (h : vtB n zs = true) (hi : i < n) (h0 : 0 < i) : ∃ p : Nat, par zs i = (p : Int) ∧ p < i := by
  obtain ⟨p, e, hp, _⟩ := ((vtB_iff.1 h).2 i hi).2.pos h0
  exact ⟨p, e, hp⟩
theorem par_root (h : vtB n zs = true) (hn : 0 < n) : par zs 0 = -1 := ((vtB_iff.1 h).2 0 hn).2.zero
/-- What the answers are in a valid tree. -/
theorem depA_at (h : vtB n zs = true) (hi : i < n) : depA n zs (i : Int) = (dep zs i : Int) := by
  unfold depA; rw [if_pos (nodeOk_iff.2 ⟨h, i, rfl, hi⟩), Int.toNat_natCast]
theorem cntA_at (h : vtB n zs = true) (hi : i < n) : cntA n zs (i : Int) = (en zs n i : Int) - (i : Int) := by
  unfold cntA; rw [if_pos (nodeOk_iff.2 ⟨h, i, rfl, hi⟩), Int.toNat_natCast]
theorem arA_at (h : vtB n zs = true) (ha : a < n) (hi : i < n) : arA n zs (a : Int) (i : Int) = anc zs a i := by
  unfold arA; rw [nodeOk_iff.2 ⟨h, i, rfl, hi⟩, nodeOk_iff.2 ⟨h, a, rfl, ha⟩, Int.toNat_natCast, Int.toNat_natCast]; rfl
theorem kidsA_at (h : vtB n zs = true) (ha : a < n) : kidsA n zs (a : Int) = (kidL zs n a).map Int.ofNat := by
  unfold kidsA; rw [if_pos (nodeOk_iff.2 ⟨h, a, rfl, ha⟩), Int.toNat_natCast]
theorem depA_no {at_ : Int} (h : nodeOk n zs at_ = false) : depA n zs at_ = -1 := by unfold depA; rw [h]; rfl
theorem cntA_no {at_ : Int} (h : nodeOk n zs at_ = false) : cntA n zs at_ = -1 := by unfold cntA; rw [h]; rfl
theorem kidsA_no {at_ : Int} (h : nodeOk n zs at_ = false) : kidsA n zs at_ = [] := by unfold kidsA; rw [h]; rfl
end
end Go.Proofs.YtffggmjhaaehlaaGreatDoor
