/- Plain facts on the heights of lines, and on one line that takes all parts. No condition. -/
import Derived.Test.YtpkajdnndognnaaPrtM
namespace Go.Proofs.Ytpkajdnndognnaa
open Go.RowKit

theorem mxh_step (zs : List Int) (a j : Nat) : mxh zs a (j + 1) = mx (mxh zs a j) (ph zs (a + j)) := rfl
theorem mxh_ge {zs : List Int} {a : Nat} : ∀ {j t : Nat}, t < j → ph zs (a + t) ≤ mxh zs a j
  | 0, _, h => absurd h (by omega)
  | j + 1, t, h => by
    rw [mxh_step]
    by_cases e : t = j
    · subst e; unfold mx; omega
    · have := mxh_ge (zs := zs) (a := a) (j := j) (t := t) (by omega)
      unfold mx; omega
theorem mxh_pos {zs : List Int} {a : Nat} : ∀ j, 0 ≤ mxh zs a j
  | 0 => Int.le_refl _
  | j + 1 => by have := mxh_pos (zs := zs) (a := a) j; rw [mxh_step]; unfold mx; omega
theorem mxh_at {zs : List Int} {a : Nat} : ∀ {j : Nat}, 1 ≤ j → (∀ t, t < j → 0 ≤ ph zs (a + t)) → ∃ t, t < j ∧ ph zs (a + t) = mxh zs a j
  | 0, h, _ => absurd h (by omega)
  | 1, _, h => ⟨0, by omega, by have := h 0 (by omega); rw [mxh_step]; show _ = mx 0 _; unfold mx; omega⟩
  | j + 2, _, h => by
    obtain ⟨t, ht, e⟩ := mxh_at (zs := zs) (a := a) (j := j + 1) (by omega) (fun t ht => h t (by omega))
    rw [mxh_step zs a (j + 1)]
    by_cases hc : mxh zs a (j + 1) ≤ ph zs (a + (j + 1))
    · exact ⟨j + 1, by omega, by unfold mx; omega⟩
    · exact ⟨t, by omega, by rw [e]; unfold mx; omega⟩
theorem sum_getD_le {xs : List Int} (h : ∀ z ∈ xs, 0 ≤ z) {z : Int} (hz : z ∈ xs) : z ≤ xs.sum := by
  induction xs with
  | nil => cases hz
  | cons x xs ih =>
    have hx := h x (by simp)
    have hs : 0 ≤ xs.sum := by
      clear ih hz
      induction xs with
      | nil => simp
      | cons y ys ih2 =>
        have := h y (by simp)
        have := ih2 (fun z hz => h z (by simp at hz ⊢; rcases hz with h | h; exact .inl h; exact .inr (.inr h)))
        rw [List.sum_cons]; omega
    rw [List.sum_cons]
    rcases List.mem_cons.1 hz with h1 | h1
    · omega
    · have := ih (fun z hz => h z (by simp [hz])) h1; omega
theorem gap_ge {xs : List Int} {gap : Int} (hg : 0 ≤ gap) : xs.sum ≤ gapSum xs gap := by
  unfold gapSum
  have := Int.mul_nonneg hg (show 0 ≤ mx 0 ((xs.length : Int) - 1) by unfold mx; omega)
  omega
section
variable {zs : List Int} {n : Nat} {wd gap : Int}
theorem line_of : ∀ {K t : Nat}, t < st zs n wd gap K → ∃ k, k < K ∧ st zs n wd gap k ≤ t ∧ t < st zs n wd gap k + ln zs n wd gap (st zs n wd gap k)
  | 0, t, h => absurd h (by simp [st])
  | K + 1, t, h => by
    by_cases h1 : t < st zs n wd gap K
    · obtain ⟨k, hk, h2, h3⟩ := line_of h1
      exact ⟨k, by omega, h2, h3⟩
    · rw [st_succ] at h
      exact ⟨K, by omega, by omega, h⟩
theorem lnH_in {k : Nat} : lnH zs n wd gap k = mxh zs (st zs n wd gap k) (ln zs n wd gap (st zs n wd gap k)) := rfl
/-- The height of all lines is at least that of each part. -/
theorem part_le (hg : 0 ≤ gap) {t : Nat} (ht : t < n) : ph zs t ≤ gapSum (htL zs n wd gap (nl zs n wd gap)) gap := by
  obtain ⟨k, hk, h1, h2⟩ := line_of (zs := zs) (n := n) (wd := wd) (gap := gap) (K := nl zs n wd gap) (t := t) (by rw [st_nl]; exact ht)
  have a := mxh_ge (zs := zs) (a := st zs n wd gap k) (j := ln zs n wd gap (st zs n wd gap k)) (t := t - st zs n wd gap k) (by omega)
  rw [show st zs n wd gap k + (t - st zs n wd gap k) = t by omega] at a
  have b : lnH zs n wd gap k ≤ (htL zs n wd gap (nl zs n wd gap)).sum := sum_getD_le (fun z hz => by
    obtain ⟨i, _, rfl⟩ := List.mem_map.1 hz
    exact mxh_pos _) (List.mem_map.2 ⟨k, List.mem_range.2 hk, rfl⟩)
  have c := gap_ge (xs := htL zs n wd gap (nl zs n wd gap)) hg
  unfold lnH at b
  omega
theorem whA_ge (hok : wrOk zs n wd gap = true) (h0 : 0 < n) : mxh zs 0 n ≤ whA zs n wd gap := by
  have hg := (wrOk_iff.1 hok).2.2
  rw [whA, if_pos hok]
  obtain ⟨t, ht, e⟩ := mxh_at (zs := zs) (a := 0) (j := n) h0 (fun t ht => by rw [Nat.zero_add]; exact (pr_bd (wrOk_iff.1 hok).1 ht).2.1)
  rw [← e, Nat.zero_add]
  exact part_le hg.1 ht
/-- Where all parts are narrow, the widest screen has one line. -/
theorem whA_one (hok : wrOk zs n wd gap = true) (h0 : 0 < n) (hw : ∀ k, k < n → pw zs k ≤ 120) : whA zs n 10000 gap = mxh zs 0 n := by
  obtain ⟨hv, _, hg⟩ := wrOk_iff.1 hok
  have hn := n_le hv
  have hok2 : wrOk zs n 10000 gap = true := wrOk_iff.2 ⟨hv, ⟨by omega, by omega⟩, hg⟩
  have us : ∀ j, j < n → usd zs gap 0 j ≤ 170 * ((j : Int) + 1) := fun j => by
    induction j with
    | zero => intro h; have := hw 0 h; show pw zs 0 ≤ _; omega
    | succ j ih =>
      intro h
      have a := ih (by omega)
      have b := hw (0 + j + 1) (by omega)
      show usd zs gap 0 j + (gap + pw zs (0 + j + 1)) ≤ _
      omega
  have hl : n = ln zs n 10000 gap 0 := ln_eq h0 (by omega) (fun j h1 h2 => by have := us j h2; omega) (.inl (by omega))
  have s1 : st zs n 10000 gap 1 = n := by rw [st_succ]; show 0 + ln zs n 10000 gap 0 = n; omega
  have hnl : 1 = nl zs n 10000 gap := by
    have p : 0 < nl zs n 10000 gap := by
      rcases Nat.eq_zero_or_pos (nl zs n 10000 gap) with h | h
      · have := st_nl (zs := zs) (n := n) (wd := 10000) (gap := gap); rw [h] at this; simp [st] at this; omega
      · exact h
    exact nl_of (k := 1) (by omega) (by omega)
  rw [whA, if_pos hok2, ← hnl]
  unfold gapSum htL
  simp only [List.range_succ, List.range_zero, List.nil_append, List.map_cons, List.map_nil, List.sum_cons, List.sum_nil, List.length_cons, List.length_nil]
  rw [show lnH zs n 10000 gap 0 = mxh zs 0 n by rw [lnH_in]; show mxh zs 0 (ln zs n 10000 gap 0) = _; rw [← hl]]
  rw [show mx 0 ((((0 : Nat) + 1 : Nat) : Int) - 1) = 0 by unfold mx; omega]
  omega
theorem lhc_len : (lhA zs n wd gap).length = (lcA zs n wd gap).length := by
  unfold lhA lcA
  split
  · rw [htL_len, cnL_len]
  · rfl
end
end Go.Proofs.Ytpkajdnndognnaa
