/- Plain facts on a tree with a box more: what is around what, where boxes end, which boxes are directly in the one that took it, and that removing it brings the tree back. No condition. -/
import Derived.Test.YtobnjagmakhgpaaAddV
import Derived.Test.YtobnjagmakhgpaaAddI
import Derived.Test.YtobnjagmakhgpaaRemI
namespace Go.Proofs.Ytobnjagmakhgpaa
open Go.RowKit

/-- A box that takes the number e moves the boxes from there on up. -/
def sh (e i : Nat) : Nat := if i < e then i else i + 1
structure Added (zs L : List Int) (n a e : Nat) : Prop where
  ha : a < e
  hn : e ≤ n
  low : ∀ i, i < e → par L i = par zs i
  new : par L e = (a : Int)
  up : ∀ i, e ≤ i → i < n → par L (i + 1) = bump e (par zs i)
section
variable {zs bs L : List Int} {n a e i j u : Nat}
theorem addL_split (hz : zs.length = n * 9) (ha : a < n) : addL n zs a bs = zs.take (en zs n a * 9) ++ (((a : Int) :: bs) ++ tailB zs (en zs n a) (n - en zs n a)) ∧ (zs.take (en zs n a * 9)).length = en zs n a * 9 := by
  have eb := en_bd (zs := zs) ha
  exact ⟨by unfold addL; simp, by rw [List.length_take, hz]; omega⟩
theorem addL_low (hz : zs.length = n * 9) (ha : a < n) (hj : j < en zs n a * 9) : (addL n zs a bs).getD j 0 = zs.getD j 0 := by
  obtain ⟨hc, ht⟩ := addL_split (bs := bs) hz ha
  rw [hc, getD_apl (by rw [ht]; exact hj), List.getD_eq_getElem?_getD, List.getElem?_take_of_lt hj, List.getD_eq_getElem?_getD]
theorem addL_new (hz : zs.length = n * 9) (ha : a < n) (hb : bs.length = 8) (hj : j < 9) : (addL n zs a bs).getD (en zs n a * 9 + j) 0 = ((a : Int) :: bs).getD j 0 := by
  obtain ⟨hc, ht⟩ := addL_split (bs := bs) hz ha
  rw [hc, getD_apr (by rw [ht]; omega), ht, Nat.add_sub_cancel_left, getD_apl (by simp [hb]; omega)]
theorem addL_up (hz : zs.length = n * 9) (ha : a < n) (hb : bs.length = 8) (hj : en zs n a * 9 ≤ j) (hn : j < n * 9) : (addL n zs a bs).getD (j + 9) 0 = if j % 9 = 0 then bump (en zs n a) (zs.getD j 0) else zs.getD j 0 := by
  obtain ⟨hc, ht⟩ := addL_split (bs := bs) hz ha
  have hm : ((a : Int) :: bs).length = 9 := by simp [hb]
  rw [hc, getD_apr (by rw [ht]; omega), ht, getD_apr (by rw [hm]; omega), hm, tailB_at _ _ _ _ (by omega), show en zs n a * 9 + (j + 9 - en zs n a * 9 - 9) = j by omega]
  by_cases h : j % 9 = 0
  · rw [if_pos h, if_pos (by omega)]
  · rw [if_neg h, if_neg (by omega)]
theorem added (hz : zs.length = n * 9) (ha : a < n) (hb : bs.length = 8) : Added zs (addL n zs a bs) n a (en zs n a) := by
  have eb := en_bd (zs := zs) ha
  refine ⟨eb.1, eb.2, fun i hi => addL_low hz ha (by omega), ?_, fun i hi hin => ?_⟩
  · have := addL_new hz ha hb (show 0 < 9 by omega)
    unfold par
    simpa using this
  · have := addL_up hz ha hb (show en zs n a * 9 ≤ i * 9 by omega) (by omega)
    rw [if_pos (by omega)] at this
    unfold par
    rw [show (i + 1) * 9 = i * 9 + 9 by omega]
    exact this
theorem sh_low (h : i < e) : sh e i = i := if_pos h
theorem sh_up (h : e ≤ i) : sh e i = i + 1 := if_neg (by omega)
theorem sh_ne (e i : Nat) : sh e i ≠ e := by unfold sh; split <;> omega
theorem sh_inj (h : i ≠ j) : sh e i ≠ sh e j := by unfold sh; split <;> split <;> omega
theorem sh_lt (h : i < j) : sh e i < sh e j := by unfold sh; split <;> split <;> omega
theorem Added.par_sh (h : Added zs L n a e) (hi : i < n) {p : Nat} (e1 : par zs i = (p : Int)) (hp : p < i) : par L (sh e i) = (sh e p : Nat) := by
  rcases Nat.lt_or_ge i e with h1 | h1
  · rw [sh_low h1, h.low i h1, e1, sh_low (by omega)]
  · rw [sh_up h1, h.up i h1 hi, e1]
    unfold bump sh
    split <;> split <;> omega
theorem Added.root (h : Added zs L n a e) (hL : Link zs n) : par L 0 = -1 := by
  have h1 := h.ha; have h2 := h.hn
  rw [h.low 0 (by omega)]
  exact hL.root (by omega)
theorem Added.anc (h : Added zs L n a e) (hL : Link zs n) (hi : i < n) : anc L (sh e u) (sh e i) = anc zs u i := by
  induction i using Nat.strongRecOn with
  | ind i ih =>
    by_cases hiu : i = u
    · subst hiu; rw [anc_self, anc_self]
    · rcases Nat.eq_zero_or_pos i with h0 | h0
      · subst h0
        have hr := h.root hL
        have hr2 := hL.root (by omega)
        have he := h.ha
        rw [anc_top (zs := zs) (by omega) hiu, sh_low (show 0 < e by omega), anc_top (by omega) (by have := sh_inj (e := e) hiu; rwa [sh_low (show 0 < e by omega)] at this)]
      · obtain ⟨p, e1, hp, _⟩ := hL.up i h0 hi
        rw [anc_par e1 hp hiu, anc_par (h.par_sh hi e1 hp) (sh_lt hp) (sh_inj hiu)]
        exact ih p hp (by omega)
theorem Added.anc_new (h : Added zs L n a e) (hL : Link zs n) : Go.Proofs.Ytobnjagmakhgpaa.anc L (sh e u) e = Go.Proofs.Ytobnjagmakhgpaa.anc zs u a := by
  have h1 := h.ha; have h2 := h.hn
  rw [anc_par h.new h.ha (fun e2 => sh_ne e u e2.symm)]
  have := h.anc (u := u) hL (show a < n by omega)
  rwa [sh_low h.ha] at this
theorem Added.anc_leaf (h : Added zs L n a e) (hL : Link zs n) (hi : i < n) : Go.Proofs.Ytobnjagmakhgpaa.anc L e (sh e i) = false := by
  induction i using Nat.strongRecOn with
  | ind i ih =>
    rcases Nat.eq_zero_or_pos i with h0 | h0
    · subst h0
      have hr := h.root hL
      have he := h.ha
      rw [sh_low (show 0 < e by omega), anc_top (by omega) (by omega)]
    · obtain ⟨p, e1, hp, _⟩ := hL.up i h0 hi
      rw [anc_par (h.par_sh hi e1 hp) (sh_lt hp) (sh_ne e i)]
      exact ih p hp (by omega)
theorem Added.en_new (h : Added zs L n a e) (hL : Link zs n) : en L (n + 1) e = e + 1 := by
  have h1 := h.hn
  refine runE_is (by omega) (by omega) (fun j h2 h3 => ?_) (fun h2 => ?_)
  · obtain rfl : j = e := by omega
    exact anc_self _ _
  · have := h.anc_leaf hL (show e < n by omega)
    rwa [sh_up (Nat.le_refl _)] at this
/-- A box around the one that took the new box ends one later. -/
theorem Added.en_up (h : Added zs L n a e) (hL : Link zs n) (he : e = en zs n a) (hu : Go.Proofs.Ytobnjagmakhgpaa.anc zs u a = true) : en L (n + 1) u = en zs n u + 1 := by
  have h1 := h.ha; have h2 := h.hn; have h3 := anc_le hu
  have hun : u < n := by omega
  have eu := en_bd (zs := zs) hun
  have e1 : e ≤ en zs n u := by
    have := (hL.in_iff hun (show e - 1 < n by omega)).1 (anc_trans hu ((hL.in_iff (show a < n by omega) (show e - 1 < n by omega)).2 ⟨by omega, by omega⟩))
    omega
  have hs : sh e u = u := sh_low (by omega)
  refine runE_is (by omega) (by omega) (fun j h4 h5 => ?_) (fun h4 => ?_)
  · rcases Nat.lt_trichotomy j e with h6 | h6 | h6
    · have := h.anc (u := u) hL (show j < n by omega)
      rw [hs, sh_low h6] at this
      rw [this]; exact (hL.in_iff hun (by omega)).2 ⟨h4, by omega⟩
    · subst h6
      have := h.anc_new (u := u) hL
      rw [hs] at this
      rw [this]; exact hu
    · have := h.anc (u := u) hL (show j - 1 < n by omega)
      rw [hs, sh_up (by omega), show j - 1 + 1 = j by omega] at this
      rw [this]; exact (hL.in_iff hun (by omega)).2 ⟨by omega, by omega⟩
  · have := h.anc (u := u) hL (show en zs n u < n by omega)
    rw [hs, sh_up e1] at this
    rw [this]
    cases hh : Go.Proofs.Ytobnjagmakhgpaa.anc zs u (en zs n u)
    · rfl
    · have := ((hL.in_iff hun (by omega)).1 hh).2; omega
theorem Added.kids (h : Added zs L n a e) (hL : Link zs n) (hL2 : Link L (n + 1)) (he : e = en zs n a) : kidL L (n + 1) a = kidL zs n a ++ [e] := by
  have h1 := h.ha; have h2 := h.hn
  have han : a < n := by omega
  have e1 := h.en_up hL he (anc_self zs a)
  have e2 := kid_en hL2 (show a < n + 1 by omega) (n + 1) (by omega) (Nat.le_refl _)
  have e3 := kid_en hL han n (by omega) (Nat.le_refl _)
  rw [e2, e1, ← he, kid_succ, if_pos h.new, kid_prefx h.low, e3, ← he]
end
/-- Removing the new box brings the tree back. -/
theorem rem_add {zs bs : List Int} {n a : Nat} (hv : vtB n zs = true) (hz : zs.length = n * 9) (ha : a < n) (hb : bs.length = 8) : remL (n + 1) (addL n zs a bs) (en zs n a) = zs := by
  have hA := added (bs := bs) hz ha hb
  have hL := link_vt hv
  have eb := en_bd (zs := zs) ha
  have e1 := hA.en_new hL
  have hl : (addL n zs a bs).length = (n + 1) * 9 := by
    obtain ⟨hc, ht⟩ := addL_split (bs := bs) hz ha
    rw [hc, List.length_append, ht, List.length_append, tailB_len]; simp [hb]; omega
  have hlen : (remL (n + 1) (addL n zs a bs) (en zs n a)).length = n * 9 := by rw [remL_len hl (by omega), e1]; omega
  refine ext_get (by rw [hlen, hz]) fun i hi => ?_
  rw [hlen] at hi
  unfold remL
  have hd : ((addL n zs a bs).take (en zs n a * 9)).length = en zs n a * 9 := by rw [List.length_take, hl]; omega
  have hd2 : ((addL n zs a bs).drop (en (addL n zs a bs) (n + 1) (en zs n a) * 9)).length = n * 9 - en zs n a * 9 := by rw [List.length_drop, hl, e1]; omega
  rw [parF_at (by rw [List.length_append, hd, hd2]; omega), e1, show en zs n a + 1 - en zs n a = 1 by omega]
  have val : ((addL n zs a bs).take (en zs n a * 9) ++ (addL n zs a bs).drop ((en zs n a + 1) * 9)).getD i 0 = if i < en zs n a * 9 then zs.getD i 0 else if i % 9 = 0 then bump (en zs n a) (zs.getD i 0) else zs.getD i 0 := by
    by_cases h1 : i < en zs n a * 9
    · rw [if_pos h1, getD_apl (by rw [hd]; exact h1), List.getD_eq_getElem?_getD, List.getElem?_take_of_lt h1, ← List.getD_eq_getElem?_getD]
      exact addL_low hz ha h1
    · rw [if_neg h1, getD_apr (by rw [hd]; omega), hd, List.getD_eq_getElem?_getD, List.getElem?_drop, ← List.getD_eq_getElem?_getD, show (en zs n a + 1) * 9 + (i - en zs n a * 9) = i + 9 by omega]
      exact addL_up hz ha hb (by omega) hi
  rw [val]
  by_cases h9 : i % 9 = 0
  · rw [if_pos h9]
    have hp : par zs (i / 9) = zs.getD i 0 := by unfold par; rw [show i / 9 * 9 = i by omega]
    have hpar : zs.getD i 0 = -1 ∨ ∃ p : Nat, zs.getD i 0 = (p : Int) ∧ p < i / 9 := by
      rcases Nat.eq_zero_or_pos (i / 9) with h0 | h0
      · left; rw [← hp, h0]; exact par_root hv (by omega)
      · right
        obtain ⟨p, e2, hp2⟩ := par_bd hv (show i / 9 < n by omega) h0
        exact ⟨p, by rw [← hp, e2], hp2⟩
    generalize zs.getD i 0 = z at hpar ⊢
    unfold mvp bump
    by_cases h1 : i < en zs n a * 9
    · rw [if_pos h1]
      rw [if_neg (by omega)]
    · rw [if_neg h1, if_pos h9]
      by_cases h2 : z ≥ (en zs n a : Int)
      · rw [if_pos h2, if_pos (by omega)]; omega
      · rw [if_neg h2, if_neg (by omega)]; omega
  · rw [if_neg h9]
    split
    · rfl
    · first | rfl | rw [if_neg h9]
end Go.Proofs.Ytobnjagmakhgpaa
