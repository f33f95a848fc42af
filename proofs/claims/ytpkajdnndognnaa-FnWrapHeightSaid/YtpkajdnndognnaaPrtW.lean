/- How the reference counts the parts of lines, part by part, and that the lines are those of the program. -/
import Derived.Test.YtpkajdnndognnaaPrtM
namespace Go.Proofs.Ytpkajdnndognnaa
variable (zs : List Int) (wd gap : Int)
/-- The counts, and the width that the last line takes, after i parts. -/
def cs : Nat → List Int × Int
  | 0 => ([], 0)
  | i + 1 => if (cs i).1 ≠ [] ∧ (cs i).2 + gap + pw zs i ≤ wd then ((cs i).1.set ((cs i).1.length - 1) ((cs i).1.getD ((cs i).1.length - 1) 0 + 1), (cs i).2 + gap + pw zs i) else ((cs i).1 ++ [1], pw zs i)
variable {zs : List Int} {n : Nat} {wd gap : Int}
theorem cs_yes {i : Nat} (h1 : (cs zs wd gap i).1 ≠ []) (h2 : (cs zs wd gap i).2 + gap + pw zs i ≤ wd) : cs zs wd gap (i + 1) = ((cs zs wd gap i).1.set ((cs zs wd gap i).1.length - 1) ((cs zs wd gap i).1.getD ((cs zs wd gap i).1.length - 1) 0 + 1), (cs zs wd gap i).2 + gap + pw zs i) := by
  rw [cs, if_pos ⟨h1, h2⟩]
theorem cs_no {i : Nat} (h : (cs zs wd gap i).1 = [] ∨ wd < (cs zs wd gap i).2 + gap + pw zs i) : cs zs wd gap (i + 1) = ((cs zs wd gap i).1 ++ [1], pw zs i) := by
  rw [cs, if_neg (by rintro ⟨a, b⟩; rcases h with h | h; exact a h; omega)]
/-- No list is longer than the parts that came, no count is above them, and the width is small. -/
theorem cs_bd (hv : prsB n zs = true) (hw : 0 ≤ wd ∧ wd ≤ 10000) (hg : 0 ≤ gap ∧ gap ≤ 50) : ∀ i, i ≤ n → (cs zs wd gap i).1.length ≤ i ∧ (∀ k, 0 ≤ (cs zs wd gap i).1.getD k 0 ∧ (cs zs wd gap i).1.getD k 0 ≤ (i : Int)) ∧ 0 ≤ (cs zs wd gap i).2 ∧ (cs zs wd gap i).2 ≤ 10000
  | 0, _ => by simp [cs]
  | i + 1, h => by
    obtain ⟨a, b, c, d⟩ := cs_bd hv hw hg i (by omega)
    have p := (pr_bd hv (k := i) (by omega)).1
    by_cases h1 : (cs zs wd gap i).1 ≠ [] ∧ (cs zs wd gap i).2 + gap + pw zs i ≤ wd
    · rw [cs_yes h1.1 h1.2]
      have p0 := p.1
      refine ⟨by simp; omega, fun k => ?_, by show 0 ≤ (cs zs wd gap i).2 + gap + pw zs i; omega, by show (cs zs wd gap i).2 + gap + pw zs i ≤ 10000; omega⟩
      have e := b ((cs zs wd gap i).1.length - 1)
      have f := b k
      simp only [List.getD_eq_getElem?_getD, List.getElem?_set] at *
      split
      · split
        · simp; omega
        · simp; omega
      · omega
    · rw [cs_no (by
        by_cases h2 : (cs zs wd gap i).1 = []
        · exact .inl h2
        · exact .inr (by have h4 : ¬ (cs zs wd gap i).2 + gap + pw zs i ≤ wd := fun h3 => h1 ⟨h2, h3⟩; omega))]
      refine ⟨by simp; omega, fun k => ?_, p.1, p.2⟩
      have f := b k
      simp only [List.getD_eq_getElem?_getD, List.getElem?_append] at *
      split
      · rename_i hk; rw [List.getElem?_eq_getElem hk] at f ⊢; simp at *; omega
      · rcases Nat.eq_zero_or_pos (k - (cs zs wd gap i).1.length) with e | e
        · simp [e]; omega
        · rw [List.getElem?_eq_none (by simp; omega)]; simp; omega
/-- After i parts: k full lines, and j parts in the next. -/
theorem cs_at (hv : wrOk zs n wd gap = true) : ∀ i, 1 ≤ i → i ≤ n → ∃ k j, k < nl zs n wd gap ∧ 1 ≤ j ∧ st zs n wd gap k + j = i ∧ j ≤ ln zs n wd gap (st zs n wd gap k) ∧ cs zs wd gap i = (cnL zs n wd gap k ++ [(j : Int)], usd zs gap (st zs n wd gap k) (j - 1))
  | 0, h, _ => absurd h (by omega)
  | 1, _, h => by
    have n0 : 0 < nl zs n wd gap := by
      rcases Nat.eq_zero_or_pos (nl zs n wd gap) with e | e
      · have := st_nl (zs := zs) (n := n) (wd := wd) (gap := gap); rw [e] at this; simp [st] at this; omega
      · exact e
    refine ⟨0, 1, n0, Nat.le_refl _, rfl, ln_ge _, ?_⟩
    rw [cs_no (.inl rfl)]
    rfl
  | i + 2, _, h => by
    obtain ⟨k, j, hk, hj, hs, hl, he⟩ := cs_at hv (i + 1) (by omega) (by omega)
    have ne : (cs zs wd gap (i + 1)).1 ≠ [] := by rw [he]; simp
    obtain ⟨j, rfl⟩ : ∃ x, j = x + 1 := ⟨j - 1, by omega⟩
    have hu : usd zs gap (st zs n wd gap k) (j + 1) = (cs zs wd gap (i + 1)).2 + gap + pw zs (i + 1) := by
      rw [he, usd]
      have : st zs n wd gap k + j + 1 = i + 1 := by omega
      rw [this]
      simp only [Nat.add_sub_cancel]
      omega
    by_cases hc : j + 1 < ln zs n wd gap (st zs n wd gap k)
    · have := ln_in (by omega) hc
      refine ⟨k, j + 2, hk, by omega, by omega, by omega, ?_⟩
      rw [cs_yes ne (by omega)]
      rw [show j + 2 - 1 = j + 1 from rfl, hu, he]
      simp
      omega
    · have hl2 : j + 1 = ln zs n wd gap (st zs n wd gap k) := by omega
      have hs2 : st zs n wd gap (k + 1) = i + 1 := by rw [st_succ, ← hl2]; omega
      have ho := ln_out (zs := zs) (n := n) (wd := wd) (gap := gap) (a := st zs n wd gap k) (by omega)
      rw [← hl2, hu] at ho
      have k1 : k + 1 < nl zs n wd gap := by
        rcases Nat.lt_or_ge (k + 1) (nl zs n wd gap) with e | e
        · exact e
        · have : k + 1 = nl zs n wd gap := by omega
          have h3 := st_nl (zs := zs) (n := n) (wd := wd) (gap := gap)
          rw [← this, hs2] at h3; omega
      refine ⟨k + 1, 1, k1, Nat.le_refl _, by omega, ln_ge _, ?_⟩
      rw [cs_no (.inr ho), he, cnL_step, ← hl2, hs2]
      rfl
/-- After all parts: the lines of the program. -/
theorem cs_all (hv : wrOk zs n wd gap = true) : (cs zs wd gap n).1 = cnL zs n wd gap (nl zs n wd gap) := by
  rcases Nat.eq_zero_or_pos n with rfl | h0
  · rfl
  · obtain ⟨k, j, hk, hj, hs, hl, he⟩ := cs_at hv n h0 (Nat.le_refl _)
    have a := line_in hk
    have e : j = ln zs n wd gap (st zs n wd gap k) := by omega
    have f : k + 1 = nl zs n wd gap := nl_of (by omega) (by rw [st_succ]; omega)
    rw [he, ← f, cnL_step, ← e]
end Go.Proofs.Ytpkajdnndognnaa
