/- Plain facts on the rectangles of wrapped parts: where each lies, that they are apart, in the width, and where the lowest one ends. No condition. -/
import Derived.Test.YtpkajdnndognnaaPrtT
import Derived.Test.YtpkajdnndognnaaPrtZ
namespace Go.Proofs.Ytpkajdnndognnaa
open Go.RowKit

section
variable {zs : List Int} {n : Nat} {wd gap : Int}
theorem gd_l {xs ys : List Int} {k : Nat} (h : k < xs.length) : (xs ++ ys).getD k 0 = xs.getD k 0 := by
  rw [List.getD_eq_getElem?_getD, List.getD_eq_getElem?_getD, List.getElem?_append_left h]
theorem gd_r {xs ys : List Int} {k : Nat} (h : xs.length ≤ k) : (xs ++ ys).getD k 0 = ys.getD (k - xs.length) 0 := by
  rw [List.getD_eq_getElem?_getD, List.getD_eq_getElem?_getD, List.getElem?_append_right h]
theorem rcl_at (a : Nat) (y : Int) : ∀ {j t f : Nat}, t < j → f < 4 → (rcl zs gap a y j).getD (t * 4 + f) 0 = [lf zs gap a t, y, pw zs (a + t), ph zs (a + t)].getD f 0
  | 0, t, f, h, _ => absurd h (by omega)
  | j + 1, t, f, h, hf => by
    have hl := rcl_len (zs := zs) (gap := gap) a y j
    rw [rcl]
    by_cases e : t = j
    · subst e
      rw [gd_r (by omega), hl, show t * 4 + f - t * 4 = f by omega]
    · rw [gd_l (by omega)]
      exact rcl_at a y (by omega) hf
theorem rcs_at : ∀ {K k j f : Nat}, k < K → j < ln zs n wd gap (st zs n wd gap k) → f < 4 → (rcs zs n wd gap K).getD ((st zs n wd gap k + j) * 4 + f) 0 = [lf zs gap (st zs n wd gap k) j, tp zs n wd gap k, pw zs (st zs n wd gap k + j), ph zs (st zs n wd gap k + j)].getD f 0
  | 0, k, j, f, h, _, _ => absurd h (by omega)
  | K + 1, k, j, f, h, hj, hf => by
    have hl := rcs_len (zs := zs) (n := n) (wd := wd) (gap := gap) K
    rw [rcs]
    by_cases e : k = K
    · subst e
      rw [gd_r (by omega), hl, show (st zs n wd gap k + j) * 4 + f - st zs n wd gap k * 4 = j * 4 + f by omega]
      exact rcl_at _ _ hj hf
    · have hs : st zs n wd gap k + j < st zs n wd gap K := by
        have h1 := st_succ (zs := zs) (n := n) (wd := wd) (gap := gap) k
        have h2 : st zs n wd gap (k + 1) ≤ st zs n wd gap K := by
          clear hl
          have : ∀ d, st zs n wd gap (k + 1) ≤ st zs n wd gap (k + 1 + d) := fun d => by
            induction d with
            | zero => exact Nat.le_refl _
            | succ d ih => have h9 := st_succ (zs := zs) (n := n) (wd := wd) (gap := gap) (k + 1 + d); rw [show k + 1 + (d + 1) = (k + 1 + d) + 1 by omega]; omega
          have h3 := this (K - (k + 1))
          rw [show k + 1 + (K - (k + 1)) = K by omega] at h3
          exact h3
        omega
      rw [gd_l (by omega)]
      exact rcs_at (by omega) hj hf
/-- Where part t lies. -/
def xq (zs : List Int) (n : Nat) (wd gap : Int) (t : Nat) : Int := (rcs zs n wd gap (nl zs n wd gap)).getD (t * 4) 0
def yq (zs : List Int) (n : Nat) (wd gap : Int) (t : Nat) : Int := (rcs zs n wd gap (nl zs n wd gap)).getD (t * 4 + 1) 0
theorem part_in {t : Nat} (ht : t < n) : ∃ k j, k < nl zs n wd gap ∧ j < ln zs n wd gap (st zs n wd gap k) ∧ t = st zs n wd gap k + j ∧ xq zs n wd gap t = lf zs gap (st zs n wd gap k) j ∧ yq zs n wd gap t = tp zs n wd gap k ∧
    (rcs zs n wd gap (nl zs n wd gap)).getD (t * 4 + 2) 0 = pw zs t ∧ (rcs zs n wd gap (nl zs n wd gap)).getD (t * 4 + 3) 0 = ph zs t := by
  obtain ⟨k, hk, h1, h2⟩ := line_of (zs := zs) (n := n) (wd := wd) (gap := gap) (K := nl zs n wd gap) (t := t) (by rw [st_nl]; exact ht)
  have hj : t - st zs n wd gap k < ln zs n wd gap (st zs n wd gap k) := by omega
  have e : t = st zs n wd gap k + (t - st zs n wd gap k) := by omega
  refine ⟨k, t - st zs n wd gap k, hk, hj, e, ?_, ?_, ?_, ?_⟩
  · have a := rcs_at (K := nl zs n wd gap) (f := 0) hk hj (by omega)
    rw [← e] at a; exact a
  · have a := rcs_at (K := nl zs n wd gap) (f := 1) hk hj (by omega)
    rw [← e] at a; exact a
  · have a := rcs_at (K := nl zs n wd gap) (f := 2) hk hj (by omega)
    rw [← e] at a; exact a
  · have a := rcs_at (K := nl zs n wd gap) (f := 3) hk hj (by omega)
    rw [← e] at a; exact a
theorem lf_mono (hv : prsB n zs = true) (hg : 0 ≤ gap ∧ gap ≤ 50) {a : Nat} : ∀ {j i : Nat}, i < j → a + j ≤ n → lf zs gap a i + pw zs (a + i) ≤ lf zs gap a j
  | 0, i, h, _ => absurd h (by omega)
  | j + 1, i, h, hj => by
    have p := (pr_bd hv (k := a + j) (by omega)).1
    have s : lf zs gap a (j + 1) = lf zs gap a j + (pw zs (a + j) + gap) := rfl
    rw [s]
    by_cases e : i = j
    · subst e; omega
    · have := lf_mono hv hg (a := a) (j := j) (i := i) (by omega) (by omega); omega
theorem tp_mono (hv : prsB n zs = true) (hg : 0 ≤ gap ∧ gap ≤ 50) : ∀ {k i : Nat}, i < k → k ≤ nl zs n wd gap → tp zs n wd gap i + lnH zs n wd gap i ≤ tp zs n wd gap k
  | 0, i, h, _ => absurd h (by omega)
  | k + 1, i, h, hk => by
    have p := (lnH_bd (wd := wd) (gap := gap) hv (k := k) (by omega))
    have s : tp zs n wd gap (k + 1) = tp zs n wd gap k + (lnH zs n wd gap k + gap) := rfl
    rw [s]
    by_cases e : i = k
    · subst e; omega
    · have := tp_mono hv hg (k := k) (i := i) (by omega) (by omega); omega
theorem part_ph {k j : Nat} (hj : j < ln zs n wd gap (st zs n wd gap k)) : ph zs (st zs n wd gap k + j) ≤ lnH zs n wd gap k := mxh_ge hj
/-- All that is known of one rectangle. -/
theorem wrp_bd (hok : wrOk zs n wd gap = true) {t : Nat} (ht : t < n) : (0 ≤ xq zs n wd gap t ∧ xq zs n wd gap t ≤ 130000) ∧ (0 ≤ yq zs n wd gap t ∧ yq zs n wd gap t ≤ 130000) := by
  obtain ⟨hv, hw, hg⟩ := wrOk_iff.1 hok
  obtain ⟨k, j, hk, hj, e, h1, h2, -, -⟩ := part_in (wd := wd) (gap := gap) ht
  have n12 := n_le hv
  have li := line_in (zs := zs) (n := n) (wd := wd) (gap := gap) hk
  have nn := nl_le (zs := zs) (n := n) (wd := wd) (gap := gap)
  have a := lf_bd hv hg (a := st zs n wd gap k) j (by omega)
  have b := tp_bd (wd := wd) hv hg k (by omega)
  rw [h1, h2]
  omega
/-- Two of them are beside or below each other. -/
theorem wrp_apart (hok : wrOk zs n wd gap = true) {t u : Nat} (ht : t < n) (hu : u < t) : xq zs n wd gap u + pw zs u ≤ xq zs n wd gap t ∨ yq zs n wd gap u + ph zs u ≤ yq zs n wd gap t := by
  obtain ⟨hv, hw, hg⟩ := wrOk_iff.1 hok
  obtain ⟨k, j, hk, hj, e, h1, h2, -, -⟩ := part_in (wd := wd) (gap := gap) ht
  obtain ⟨k', j', hk', hj', e', h1', h2', -, -⟩ := part_in (wd := wd) (gap := gap) (show u < n by omega)
  have li := line_in (zs := zs) (n := n) (wd := wd) (gap := gap) hk
  rw [h1, h2, h1', h2']
  rcases Nat.lt_trichotomy k' k with h | h | h
  · right
    have := tp_mono hv hg h (Nat.le_of_lt hk)
    have p := part_ph hj'
    rw [e']; omega
  · subst h
    left
    have := lf_mono hv hg (a := st zs n wd gap k') (j := j) (i := j') (by omega) (by omega)
    rw [e']; omega
  · exfalso
    have s : ∀ d, st zs n wd gap (k + 1) ≤ st zs n wd gap (k + 1 + d) := fun d => by
      induction d with
      | zero => exact Nat.le_refl _
      | succ d ih => have h9 := st_succ (zs := zs) (n := n) (wd := wd) (gap := gap) (k + 1 + d); rw [show k + 1 + (d + 1) = (k + 1 + d) + 1 by omega]; omega
    have h3 := s (k' - (k + 1))
    rw [show k + 1 + (k' - (k + 1)) = k' by omega, st_succ] at h3
    omega
theorem usd_lf (a : Nat) : ∀ j, usd zs gap a j = lf zs gap a j + pw zs (a + j)
  | 0 => by show pw zs a = 0 + pw zs (a + 0); rw [Nat.add_zero]; omega
  | j + 1 => by
    have := usd_lf a j
    show usd zs gap a j + (gap + pw zs (a + j + 1)) = lf zs gap a j + (pw zs (a + j) + gap) + pw zs (a + (j + 1))
    rw [Nat.add_assoc a j 1]; omega
/-- A rectangle that is not the first one of its line ends in the width. -/
theorem wrp_width {t : Nat} (ht : t < n) (h0 : 0 < xq zs n wd gap t) : xq zs n wd gap t + pw zs t ≤ wd := by
  obtain ⟨k, j, hk, hj, e, h1, h2, -, -⟩ := part_in (wd := wd) (gap := gap) ht
  rcases Nat.eq_zero_or_pos j with rfl | hp
  · rw [h1] at h0; exact absurd h0 (by simp [lf])
  · have := ln_in (wd := wd) hp hj
    rw [usd_lf] at this
    rw [h1, e]
    exact this
theorem wrp_first (h0 : 0 < n) : xq zs n wd gap 0 = 0 ∧ yq zs n wd gap 0 = 0 := by
  obtain ⟨k, j, hk, hj, e, h1, h2, -, -⟩ := part_in (zs := zs) (wd := wd) (gap := gap) h0
  have a := st_ge (zs := zs) (n := n) (wd := wd) (gap := gap) k
  obtain rfl : k = 0 := by omega
  obtain rfl : j = 0 := by omega
  exact ⟨h1.trans rfl, h2.trans rfl⟩
theorem htL_tp : ∀ k, (htL zs n wd gap k).sum + gap * (k : Int) = tp zs n wd gap k
  | 0 => by simp [htL, tp]
  | k + 1 => by
    have := htL_tp k
    rw [htL_step, List.sum_append]
    show _ + gap * ((k + 1 : Nat) : Int) = tp zs n wd gap k + (lnH zs n wd gap k + gap)
    rw [show gap * ((k + 1 : Nat) : Int) = gap * (k : Int) + gap by rw [Int.natCast_add, Int.mul_add]; simp]
    simp only [List.sum_cons, List.sum_nil]
    omega
/-- The height of all lines is where the last one ends. -/
theorem whA_end (hok : wrOk zs n wd gap = true) {k : Nat} (hk : nl zs n wd gap = k + 1) : whA zs n wd gap = tp zs n wd gap k + lnH zs n wd gap k := by
  have h := htL_tp (zs := zs) (n := n) (wd := wd) (gap := gap) (k + 1)
  rw [whA, if_pos hok, gapSum_pos (htL_len _) (by omega), hk]
  have s : tp zs n wd gap (k + 1) = tp zs n wd gap k + (lnH zs n wd gap k + gap) := rfl
  rw [show (((k + 1 : Nat) : Int) - 1) = (k : Int) by omega]
  rw [show gap * ((k + 1 : Nat) : Int) = gap * (k : Int) + gap by rw [Int.natCast_add, Int.mul_add]; simp] at h
  omega
theorem nl_pos (h0 : 0 < n) : ∃ k, nl zs n wd gap = k + 1 := by
  rcases Nat.eq_zero_or_pos (nl zs n wd gap) with h | h
  · have := st_nl (zs := zs) (n := n) (wd := wd) (gap := gap); rw [h] at this; simp [st] at this; omega
  · exact ⟨nl zs n wd gap - 1, by omega⟩
theorem wrp_le (hok : wrOk zs n wd gap = true) {t : Nat} (ht : t < n) : yq zs n wd gap t + ph zs t ≤ whA zs n wd gap := by
  obtain ⟨hv, hw, hg⟩ := wrOk_iff.1 hok
  obtain ⟨K, hK⟩ := nl_pos (zs := zs) (wd := wd) (gap := gap) (show 0 < n by omega)
  obtain ⟨k, j, hk, hj, e, h1, h2, -, -⟩ := part_in (wd := wd) (gap := gap) ht
  have p := part_ph hj
  have l := (lnH_bd (wd := wd) (gap := gap) hv (k := K) (by omega)).1
  rw [whA_end hok hK, h2, e]
  by_cases h : k = K
  · subst h; omega
  · have := tp_mono (wd := wd) hv hg (k := K) (i := k) (by omega) (by omega); omega
theorem wrp_at (hok : wrOk zs n wd gap = true) (h0 : 0 < n) : ∃ t, t < n ∧ yq zs n wd gap t + ph zs t = whA zs n wd gap := by
  obtain ⟨hv, hw, hg⟩ := wrOk_iff.1 hok
  obtain ⟨K, hK⟩ := nl_pos (zs := zs) (wd := wd) (gap := gap) h0
  have li := line_in (zs := zs) (n := n) (wd := wd) (gap := gap) (k := K) (by omega)
  obtain ⟨j, hj, e⟩ := mxh_at (zs := zs) (a := st zs n wd gap K) (j := ln zs n wd gap (st zs n wd gap K)) (ln_ge _) (fun t ht => (pr_bd hv (k := st zs n wd gap K + t) (by omega)).2.1)
  refine ⟨st zs n wd gap K + j, by omega, ?_⟩
  have a := rcs_at (zs := zs) (n := n) (wd := wd) (gap := gap) (K := nl zs n wd gap) (k := K) (f := 1) (by omega) hj (by omega)
  rw [whA_end hok hK]
  show (rcs zs n wd gap (nl zs n wd gap)).getD ((st zs n wd gap K + j) * 4 + 1) 0 + _ = _
  rw [a, e]
  rfl
theorem wpA_at {t : Nat} (hok : wrOk zs n wd gap = true) (ht : t < n) : (wpA zs n wd gap).getD (t * 4) 0 = xq zs n wd gap t ∧ (wpA zs n wd gap).getD (t * 4 + 1) 0 = yq zs n wd gap t ∧ (wpA zs n wd gap).getD (t * 4 + 2) 0 = pw zs t ∧ (wpA zs n wd gap).getD (t * 4 + 3) 0 = ph zs t := by
  obtain ⟨k, j, hk, hj, e, h1, h2, h3, h4⟩ := part_in (zs := zs) (wd := wd) (gap := gap) ht
  rw [wpA, if_pos hok]
  exact ⟨rfl, rfl, h3, h4⟩
theorem wpA_yes (hok : wrOk zs n wd gap = true) : (wpA zs n wd gap).length = n * 4 := by rw [wpA, if_pos hok, rcs_len, st_nl]
theorem wpA_no (hok : wrOk zs n wd gap = false) : wpA zs n wd gap = [] := by rw [wpA, if_neg (by rw [hok]; decide)]
end
end Go.Proofs.Ytpkajdnndognnaa
