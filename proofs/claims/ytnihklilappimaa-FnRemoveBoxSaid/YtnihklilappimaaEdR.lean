/- Plain facts on a tree without a box and all boxes in it: what is around what, that it is valid, and that two boxes beside each other can be removed in both orders. No condition. -/
import Derived.Test.YtnihklilappimaaRemI
import Derived.Test.YtnihklilappimaaTreeP
namespace Go.Proofs.Ytnihklilappimaa
open Go.RowKit

/-- Behind m boxes that are gone the boxes move down. -/
def rmv (a m i : Nat) : Nat := if i < a then i else i - m
section
variable {zs : List Int} {n a m k i j u p : Nat}
/-- A box in the boxes that go has its parent among them, or is the first of them. -/
theorem out_par (h : vtB n zs = true) (ha : a < n) (hm : en zs n a = a + m) (hi : i < n) (ho : i < a ∨ a + m ≤ i) (e : par zs i = (p : Int)) (hp : p < i) : p < a ∨ a + m ≤ p := by
  rcases Nat.lt_or_ge p a with h1 | h1
  · exact .inl h1
  · rcases Nat.lt_or_ge p (a + m) with h2 | h2
    · exfalso
      have h3 := ((link_vt h).in_iff ha (show p < n by omega)).2 ⟨h1, by omega⟩
      have h4 : anc zs a i = true := by rw [anc_par e hp (by omega)]; exact h3
      have := ((link_vt h).in_iff ha hi).1 h4
      omega
    · exact .inr h2
theorem rem_get (hz : zs.length = n * 9) (ha : a < n) (hm : en zs n a = a + m) (hi : i < (n - m) * 9) :
    (remL n zs a).getD i 0 = if i % 9 = 0 then mvp (a : Int) (-(m : Int)) (zs.getD (if i < a * 9 then i else i + m * 9) 0) else zs.getD (if i < a * 9 then i else i + m * 9) 0 := by
  have eb := en_bd (zs := zs) ha
  unfold remL
  rw [hm] at eb ⊢
  rw [show a + m - a = m by omega]
  have ht : (zs.take (a * 9)).length = a * 9 := by rw [List.length_take, hz]; omega
  have hd : (zs.drop ((a + m) * 9)).length = (n - (a + m)) * 9 := by rw [List.length_drop, hz]; omega
  rw [parF_at (by rw [List.length_append, ht, hd]; omega)]
  have val : (zs.take (a * 9) ++ zs.drop ((a + m) * 9)).getD i 0 = zs.getD (if i < a * 9 then i else i + m * 9) 0 := by
    by_cases h1 : i < a * 9
    · rw [if_pos h1, getD_apl (by rw [ht]; exact h1), List.getD_eq_getElem?_getD, List.getElem?_take_of_lt h1, ← List.getD_eq_getElem?_getD]
    · rw [if_neg h1, getD_apr (by rw [ht]; omega), ht, List.getD_eq_getElem?_getD, List.getElem?_drop, ← List.getD_eq_getElem?_getD, show (a + m) * 9 + (i - a * 9) = i + m * 9 by omega]
  rw [val]
theorem rem_field (hz : zs.length = n * 9) (ha : a < n) (hm : en zs n a = a + m) (hi : i < n) (ho : i < a ∨ a + m ≤ i) {r : Nat} (hr : r < 9) (h0 : 0 < r) : (remL n zs a).getD (rmv a m i * 9 + r) 0 = zs.getD (i * 9 + r) 0 := by
  have eb := en_bd (zs := zs) ha
  unfold rmv
  rcases ho with h1 | h1
  · rw [if_pos h1, rem_get hz ha hm (by omega), if_neg (by omega), if_pos (by omega)]
  · rw [if_neg (by omega), rem_get hz ha hm (by omega), if_neg (by omega), if_neg (by omega), show (i - m) * 9 + r + m * 9 = i * 9 + r by omega]
theorem rem_par (hz : zs.length = n * 9) (ha : a < n) (hm : en zs n a = a + m) (hi : i < n) (ho : i < a ∨ a + m ≤ i) : par (remL n zs a) (rmv a m i) = mvp (a : Int) (-(m : Int)) (par zs i) := by
  have eb := en_bd (zs := zs) ha
  unfold rmv par
  rcases ho with h1 | h1
  · rw [if_pos h1, rem_get hz ha hm (by omega), if_pos (by omega), if_pos (by omega)]
  · rw [if_neg (by omega), rem_get hz ha hm (by omega), if_pos (by omega), if_neg (by omega), show (i - m) * 9 + m * 9 = i * 9 by omega]
theorem rem_par_at (h : vtB n zs = true) (hz : zs.length = n * 9) (ha : a < n) (hm : en zs n a = a + m) (hi : i < n) (ho : i < a ∨ a + m ≤ i) (e : par zs i = (p : Int)) (hp : p < i) : par (remL n zs a) (rmv a m i) = (rmv a m p : Nat) := by
  have eb := en_bd (zs := zs) ha
  rw [rem_par hz ha hm hi ho, e]
  unfold mvp rmv
  rcases out_par h ha hm hi ho e hp with h1 | h1 <;> (split <;> first | omega | (split <;> omega))
theorem rem_root (h : vtB n zs = true) (hz : zs.length = n * 9) (ha : a < n) (h0 : 0 < a) (hm : en zs n a = a + m) : par (remL n zs a) 0 = -1 := by
  have := rem_par hz ha hm (show 0 < n by omega) (.inl h0)
  rw [show rmv a m 0 = 0 from if_pos h0, par_root h (by omega)] at this
  rw [this]
  unfold mvp
  rw [if_neg (by omega)]
theorem rmv_ne (ho : i < a ∨ a + m ≤ i) (hu : u < a ∨ a + m ≤ u) (hn : i ≠ u) : rmv a m i ≠ rmv a m u := by unfold rmv; split <;> split <;> omega
theorem rmv_lt (ho : i < a ∨ a + m ≤ i) (hu : u < a ∨ a + m ≤ u) (hn : i < u) : rmv a m i < rmv a m u := by unfold rmv; split <;> split <;> omega
theorem rem_anc (h : vtB n zs = true) (hz : zs.length = n * 9) (ha : a < n) (h0 : 0 < a) (hm : en zs n a = a + m) (hu : u < a ∨ a + m ≤ u) (hi : i < n) (ho : i < a ∨ a + m ≤ i) :
    anc (remL n zs a) (rmv a m u) (rmv a m i) = anc zs u i := by
  induction i using Nat.strongRecOn with
  | ind i ih =>
    by_cases hiu : i = u
    · subst hiu; rw [anc_self, anc_self]
    · rcases Nat.eq_zero_or_pos i with hi0 | hi0
      · subst hi0
        have hr := rem_root h hz ha h0 hm
        have hr2 := par_root h (show 0 < n by omega)
        have hne := rmv_ne ho hu hiu
        rw [show rmv a m 0 = 0 from if_pos h0] at hne ⊢
        rw [anc_top (zs := zs) (by omega) hiu, anc_top (by omega) hne]
      · obtain ⟨p, e1, hp⟩ := par_bd h hi hi0
        have hop := out_par h ha hm hi ho e1 hp
        rw [anc_par e1 hp hiu, anc_par (rem_par_at h hz ha hm hi ho e1 hp) (rmv_lt hop ho hp) (rmv_ne ho hu hiu)]
        exact ih p hp (by omega) hop
theorem rem_dep (h : vtB n zs = true) (hz : zs.length = n * 9) (ha : a < n) (h0 : 0 < a) (hm : en zs n a = a + m) (hi : i < n) (ho : i < a ∨ a + m ≤ i) : dep (remL n zs a) (rmv a m i) = dep zs i := by
  induction i using Nat.strongRecOn with
  | ind i ih =>
    rcases Nat.eq_zero_or_pos i with hi0 | hi0
    · subst hi0
      rw [show rmv a m 0 = 0 from if_pos h0, dep_top (by have := rem_root h hz ha h0 hm; omega), dep_top (by have := par_root h (show 0 < n by omega); omega)]
    · obtain ⟨p, e1, hp⟩ := par_bd h hi hi0
      have hop := out_par h ha hm hi ho e1 hp
      rw [dep_par e1 hp, dep_par (rem_par_at h hz ha hm hi ho e1 hp) (rmv_lt hop ho hp), ih p hp (by omega) hop]
/-- No more boxes are directly in a box than were. -/
theorem rem_kids (h : vtB n zs = true) (hz : zs.length = n * 9) (ha : a < n) (h0 : 0 < a) (hm : en zs n a = a + m) (hop : p < a ∨ a + m ≤ p) (k : Nat) (hk : k ≤ n - m) :
    (kidL (remL n zs a) k (rmv a m p)).length ≤ (kidL zs (if k < a then k else if k = a then a else k + m) p).length := by
  have eb := en_bd (zs := zs) ha
  induction k with
  | zero => exact Nat.zero_le _
  | succ k ih =>
    have ih := ih (by omega)
    -- the box of the new number k
    obtain ⟨i, hi, ho, hr⟩ : ∃ i, i < n ∧ (i < a ∨ a + m ≤ i) ∧ rmv a m i = k := by
      rcases Nat.lt_or_ge k a with h1 | h1
      · exact ⟨k, by omega, .inl h1, if_pos h1⟩
      · exact ⟨k + m, by omega, .inr (by omega), by unfold rmv; rw [if_neg (by omega)]; omega⟩
    have hpar := rem_par hz ha hm hi ho
    rw [hr] at hpar
    have hiff : par (remL n zs a) k = ((rmv a m p : Nat) : Int) → par zs i = (p : Int) := by
      intro hh
      rcases Nat.eq_zero_or_pos i with hi0 | hi0
      · subst hi0
        rw [par_root h (by omega)] at hpar
        unfold mvp at hpar
        rw [if_neg (by omega)] at hpar
        omega
      · obtain ⟨q, e1, hq⟩ := par_bd h hi hi0
        have hoq := out_par h ha hm hi ho e1 hq
        have h5 := rem_par_at h hz ha hm hi ho e1 hq
        rw [hr, hh] at h5
        by_cases hqp : q = p
        · rw [e1, hqp]
        · exact absurd (by omega : rmv a m p = rmv a m q) (rmv_ne hop hoq (fun e => hqp e.symm))
    have mono : (kidL zs (if k < a then k else if k = a then a else k + m) p).length + (if par zs i = (p : Int) then 1 else 0) ≤ (kidL zs (if k + 1 < a then k + 1 else if k + 1 = a then a else k + 1 + m) p).length := by
      have e1 : i = if k < a then k else k + m := by
        unfold rmv at hr
        by_cases h1 : k < a
        · rw [if_pos h1]
          rcases ho with h2 | h2
          · rw [if_pos h2] at hr; exact hr
          · rw [if_neg (by omega)] at hr; omega
        · rw [if_neg h1]
          rcases ho with h2 | h2
          · rw [if_pos h2] at hr; omega
          · rw [if_neg (by omega)] at hr; omega
      have e2 : (if k + 1 < a then k + 1 else if k + 1 = a then a else k + 1 + m) = i + 1 := by
        rw [e1]
        by_cases h1 : k + 1 < a
        · rw [if_pos h1, if_pos (by omega)]
        · by_cases h2 : k + 1 = a
          · rw [if_neg h1, if_pos h2, if_pos (by omega)]; omega
          · rw [if_neg h1, if_neg h2, if_neg (by omega)]; omega
      have e3 : (if k < a then k else if k = a then a else k + m) ≤ i := by
        rw [e1]
        by_cases h1 : k < a
        · rw [if_pos h1, if_pos h1]; exact Nat.le_refl _
        · rw [if_neg h1, if_neg h1]; split <;> omega
      rw [e2, kid_succ]
      have := kid_mono (zs := zs) (a := p) e3
      by_cases hq : par zs i = (p : Int)
      · rw [if_pos hq, if_pos hq, List.length_append, List.length_singleton]; omega
      · rw [if_neg hq, if_neg hq]; omega
    rw [kid_succ]
    by_cases hc : par (remL n zs a) k = ((rmv a m p : Nat) : Int)
    · rw [if_pos hc, List.length_append, List.length_singleton]
      rw [if_pos (hiff hc)] at mono
      omega
    · rw [if_neg hc]
      omega
/-- A tree without a box is valid. -/
theorem rem_valid (h : vtB n zs = true) (hz : zs.length = n * 9) (ha : a < n) (h0 : 0 < a) (hm : en zs n a = a + m) : vtB (n - m) (remL n zs a) = true := by
  have eb := en_bd (zs := zs) ha
  obtain ⟨h1, h2⟩ := vtB_iff.1 h
  refine vtB_iff.2 ⟨by omega, fun k hk => ?_⟩
  obtain ⟨i, hi, ho, hr⟩ : ∃ i, i < n ∧ (i < a ∨ a + m ≤ i) ∧ rmv a m i = k := by
    rcases Nat.lt_or_ge k a with h3 | h3
    · exact ⟨k, by omega, .inl h3, if_pos h3⟩
    · exact ⟨k + m, by omega, .inr (by omega), by unfold rmv; rw [if_neg (by omega)]; omega⟩
  obtain ⟨hb, hp⟩ := h2 i hi
  subst hr
  have F := fun r (hr : r < 9) (hr0 : 0 < r) => rem_field hz ha hm hi ho hr hr0
  constructor
  · unfold BoxP knd at hb ⊢
    rw [F 1 (by omega) (by omega), F 2 (by omega) (by omega), F 3 (by omega) (by omega), F 4 (by omega) (by omega), F 5 (by omega) (by omega), F 6 (by omega) (by omega), F 7 (by omega) (by omega), F 8 (by omega) (by omega)]
    exact hb
  · rcases Nat.eq_zero_or_pos i with hi0 | hi0
    · subst hi0
      rw [show rmv a m 0 = 0 from if_pos h0]
      unfold PlaceP
      rw [if_pos rfl]
      exact rem_root h hz ha h0 hm
    · obtain ⟨p, e1, hpi, h3, h4, h5, h6⟩ := hp.pos hi0
      have hop := out_par h ha hm hi ho e1 hpi
      have hpar := rem_par_at h hz ha hm hi ho e1 hpi
      have hlt := rmv_lt hop ho hpi
      unfold PlaceP
      rw [if_neg (by omega), hpar, Int.toNat_natCast]
      refine ⟨⟨by omega, hlt⟩, ?_, ?_, ?_, ?_⟩
      · -- the box ahead
        rcases Nat.lt_trichotomy i a with h7 | h7 | h7
        · have := rem_anc h hz ha h0 hm hop (show i - 1 < n by omega) (.inl (by omega))
          rw [show rmv a m (i - 1) = rmv a m i - 1 by unfold rmv; rw [if_pos h7, if_pos (by omega)]] at this
          rw [this]; exact h3
        · omega
        · rcases Nat.lt_or_ge (a + m) i with h8 | h8
          · have := rem_anc h hz ha h0 hm hop (show i - 1 < n by omega) (.inr (by omega))
            rw [show rmv a m (i - 1) = rmv a m i - 1 by unfold rmv; rw [if_neg (by omega), if_neg (by omega)]; omega] at this
            rw [this]; exact h3
          · -- the box behind those that go: its parent is around the box ahead of them
            have hi2 : i = a + m := by omega
            subst hi2
            have hpa : p < a := by omega
            have h9 : anc zs a (a + m - 1) = true := ((link_vt h).in_iff ha (by omega)).2 ⟨by omega, by omega⟩
            have h10 := anc_chain h3 h9 (by omega)
            obtain ⟨q, e2, hq, h11⟩ := (link_vt h).up a h0 ha
            rw [anc_par e2 hq (by omega)] at h10
            have h12 := anc_trans h10 h11
            have := rem_anc h hz ha h0 hm hop (show a - 1 < n by omega) (.inl (by omega))
            rw [show rmv a m (a - 1) = rmv a m (a + m) - 1 by unfold rmv; rw [if_neg (show ¬ a + m < a by omega), if_pos (by omega)]; omega] at this
            rw [this]; exact h12
      · have := rem_field hz ha hm (show p < n by omega) hop (show 1 < 9 by omega) (by omega)
        unfold knd at h4 ⊢
        rw [this]; exact h4
      · have h7 := rem_kids h hz ha h0 hm hop (rmv a m i) (by omega)
        refine Nat.lt_of_le_of_lt (Nat.le_trans h7 (kid_mono ?_)) h5
        unfold rmv
        rcases ho with h8 | h8
        · rw [if_pos h8, if_pos h8]; exact Nat.le_refl _
        · rw [show (if i < a then i else i - m) = i - m from if_neg (by omega)]
          split
          · omega
          · split <;> omega
      · rw [rem_dep h hz ha h0 hm (show p < n by omega) hop]; exact h6
/-- Where the next box beside ends, when the first one is gone, and the other way about. -/
theorem rem_en1 (h : vtB n zs = true) (hz : zs.length = n * 9) (ha : a < n) (h0 : 0 < a) (hm : en zs n a = a + m) (hb : a + m < n) (hk : en zs n (a + m) = a + m + k) : en (remL n zs a) (n - m) a = a + k := by
  have eb := en_bd (zs := zs) hb
  have e1 : rmv a m (a + m) = a := by unfold rmv; rw [if_neg (by omega)]; omega
  have key : ∀ j, a ≤ j → j + m < n → anc (remL n zs a) a j = anc zs (a + m) (j + m) := fun j h1 h2 => by
    have := rem_anc h hz ha h0 hm (u := a + m) (.inr (Nat.le_refl _)) h2 (.inr (by omega))
    rwa [e1, show rmv a m (j + m) = j by unfold rmv; rw [if_neg (by omega)]; omega] at this
  refine runE_is (by omega) (by omega) (fun j h1 h2 => ?_) (fun h1 => ?_)
  · rw [key j h1 (by omega)]
    exact ((link_vt h).in_iff hb (by omega)).2 ⟨by omega, by omega⟩
  · rw [key (a + k) (by omega) (by omega)]
    cases hh : anc zs (a + m) (a + k + m)
    · rfl
    · have := ((link_vt h).in_iff hb (by omega)).1 hh; omega
theorem rem_en2 (h : vtB n zs = true) (hz : zs.length = n * 9) (ha : a < n) (h0 : 0 < a) (hm : en zs n a = a + m) (hb : a + m < n) (hk : en zs n (a + m) = a + m + k) : en (remL n zs (a + m)) (n - k) a = a + m := by
  have eb := en_bd (zs := zs) hb
  have ea := en_bd (zs := zs) ha
  refine runE_is (by omega) (by omega) (fun j h1 h2 => ?_) (fun h1 => ?_)
  · have := rem_anc h hz hb (by omega) hk (u := a) (.inl (by omega)) (show j < n by omega) (.inl h2)
    rw [show rmv (a + m) k a = a from if_pos (by omega), show rmv (a + m) k j = j from if_pos h2] at this
    rw [this]
    exact ((link_vt h).in_iff ha (by omega)).2 ⟨h1, by omega⟩
  · have := rem_anc h hz hb (by omega) hk (u := a) (.inl (by omega)) (show a + m + k < n by omega) (.inr (Nat.le_refl _))
    rw [show rmv (a + m) k a = a from if_pos (by omega), show rmv (a + m) k (a + m + k) = a + m by unfold rmv; rw [if_neg (by omega)]; omega] at this
    rw [this]
    cases hh : anc zs a (a + m + k)
    · rfl
    · have := ((link_vt h).in_iff ha (by omega)).1 hh; omega
/-- Two boxes beside each other can be removed in both orders. -/
theorem rem_two (h : vtB n zs = true) (hz : zs.length = n * 9) (ha : a < n) (h0 : 0 < a) (hm : en zs n a = a + m) (hb : a + m < n) (hk : en zs n (a + m) = a + m + k) :
    remL (n - m) (remL n zs a) a = remL (n - k) (remL n zs (a + m)) a := by
  have eb := en_bd (zs := zs) hb
  have ea := en_bd (zs := zs) ha
  have l1 : (remL n zs a).length = (n - m) * 9 := by rw [remL_len hz ha, hm]; congr 1; omega
  have l2 : (remL n zs (a + m)).length = (n - k) * 9 := by rw [remL_len hz hb, hk]; congr 1; omega
  have e1 := rem_en1 h hz ha h0 hm hb hk
  have e2 := rem_en2 h hz ha h0 hm hb hk
  have L1 : (remL (n - m) (remL n zs a) a).length = (n - m - k) * 9 := by rw [remL_len l1 (by omega), e1]; congr 1; omega
  have L2 : (remL (n - k) (remL n zs (a + m)) a).length = (n - k - m) * 9 := by rw [remL_len l2 (by omega), e2]; congr 1; omega
  refine ext_get (by rw [L1, L2]; omega) fun i hi => ?_
  rw [L1] at hi
  rw [rem_get l1 (by omega) e1 (by omega), rem_get l2 (by omega) e2 (by omega)]
  have g1 : ∀ j, j < (n - m) * 9 → (remL n zs a).getD j 0 = if j % 9 = 0 then mvp (a : Int) (-(m : Int)) (zs.getD (if j < a * 9 then j else j + m * 9) 0) else zs.getD (if j < a * 9 then j else j + m * 9) 0 := fun j hj => rem_get hz ha hm hj
  have g2 : ∀ j, j < (n - k) * 9 → (remL n zs (a + m)).getD j 0 = if j % 9 = 0 then mvp ((a + m : Nat) : Int) (-(k : Int)) (zs.getD (if j < (a + m) * 9 then j else j + k * 9) 0) else zs.getD (if j < (a + m) * 9 then j else j + k * 9) 0 := fun j hj => rem_get hz hb hk hj
  by_cases h1 : i < a * 9
  · simp only [if_pos h1]
    rw [g1 i (by omega), g2 i (by omega)]
    simp only [if_pos h1, if_pos (show i < (a + m) * 9 by omega)]
    by_cases h9 : i % 9 = 0
    · simp only [if_pos h9]
      have hpar : zs.getD i 0 = -1 ∨ ∃ p : Nat, zs.getD i 0 = (p : Int) ∧ p < a := by
        have hp : par zs (i / 9) = zs.getD i 0 := by unfold par; rw [show i / 9 * 9 = i by omega]
        rcases Nat.eq_zero_or_pos (i / 9) with h3 | h3
        · left; rw [← hp, h3]; exact par_root h (by omega)
        · right
          obtain ⟨p, e3, hp2⟩ := par_bd h (show i / 9 < n by omega) h3
          exact ⟨p, by rw [← hp, e3], by omega⟩
      have zb : zs.getD i 0 < (a : Int) := by
        rcases hpar with hz | ⟨p, hz, hp⟩ <;> omega
      clear hpar
      generalize zs.getD i 0 = z at zb ⊢
      unfold mvp
      rw [if_neg (show ¬ (a : Int) ≤ z by omega), if_neg (show ¬ (a : Int) ≤ z by omega), if_neg (show ¬ ((a + m : Nat) : Int) ≤ z by omega), if_neg (show ¬ (a : Int) ≤ z by omega)]
    · simp only [if_neg h9]
  · simp only [if_neg h1]
    rw [g1 (i + k * 9) (by omega), g2 (i + m * 9) (by omega), if_neg (show ¬ i + k * 9 < a * 9 by omega), if_neg (show ¬ i + m * 9 < (a + m) * 9 by omega), show i + m * 9 + k * 9 = i + k * 9 + m * 9 by omega]
    by_cases h9 : i % 9 = 0
    · rw [if_pos h9, if_pos h9, if_pos (show (i + k * 9) % 9 = 0 by omega), if_pos (show (i + m * 9) % 9 = 0 by omega)]
      have hpar : ∃ p : Nat, zs.getD (i + k * 9 + m * 9) 0 = (p : Int) ∧ (p < a ∨ a + m + k ≤ p) := by
        have hj : i / 9 + k + m < n := by omega
        have hp : par zs (i / 9 + k + m) = zs.getD (i + k * 9 + m * 9) 0 := by unfold par; rw [show (i / 9 + k + m) * 9 = i + k * 9 + m * 9 by omega]
        obtain ⟨p, e3, hp2⟩ := par_bd h hj (by omega)
        refine ⟨p, by rw [← hp, e3], ?_⟩
        have o1 := out_par h ha hm hj (.inr (by omega)) e3 hp2
        have o2 := out_par h hb hk hj (.inr (by omega)) e3 hp2
        omega
      obtain ⟨p, e3, hp⟩ := hpar
      rw [e3]
      unfold mvp
      rcases hp with hp | hp
      · rw [if_neg (show ¬ (a : Int) ≤ (p : Int) by omega), if_neg (show ¬ (a : Int) ≤ (p : Int) by omega), if_neg (show ¬ ((a + m : Nat) : Int) ≤ (p : Int) by omega), if_neg (by omega)]
      · rw [if_pos (show (a : Int) ≤ (p : Int) by omega), if_pos (by omega), if_pos (show ((a + m : Nat) : Int) ≤ (p : Int) by omega), if_pos (by omega)]
        omega
    · rw [if_neg h9, if_neg h9, if_neg (show ¬ (i + k * 9) % 9 = 0 by omega), if_neg (show ¬ (i + m * 9) % 9 = 0 by omega)]
end
end Go.Proofs.Ytnihklilappimaa
