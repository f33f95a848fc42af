/- A wider screen needs no more lines. -/
import Derived.Test.YtlmamglckamjjaaPrtM
namespace Go.Proofs.Ytlmamglckamjjaa
variable {zs : List Int} {n : Nat} {wd wd' gap : Int}
/-- From a later part on, no more width is needed. -/
theorem usd_le (hv : prsB n zs = true) (hg : 0 ≤ gap ∧ gap ≤ 50) {a : Nat} : ∀ i j, a + i + j < n → usd zs gap (a + i) j ≤ usd zs gap a (i + j)
  | 0, j, _ => by simp
  | i + 1, 0, h => by
    have h1 := (usd_bd hv hg i (a := a) (by omega)).1
    show pw zs (a + (i + 1)) ≤ usd zs gap a i + (gap + pw zs (a + i + 1))
    rw [show a + (i + 1) = a + i + 1 from rfl]
    omega
  | i + 1, j + 1, h => by
    have h1 := usd_le hv hg (a := a) (i + 1) j (by omega)
    show usd zs gap (a + (i + 1)) j + (gap + pw zs (a + (i + 1) + j + 1)) ≤ usd zs gap a (i + 1 + j) + (gap + pw zs (a + (i + 1 + j) + 1))
    rw [show a + (i + 1 + j) + 1 = a + (i + 1) + j + 1 by omega]
    omega
theorem st_wide (hv : prsB n zs = true) (hg : 0 ≤ gap ∧ gap ≤ 50) (hw : wd ≤ wd') : ∀ k, k ≤ nl zs n wd gap → k ≤ nl zs n wd' gap → st zs n wd gap k ≤ st zs n wd' gap k
  | 0, _, _ => Nat.le_refl _
  | k + 1, h, h' => by
    have ih := st_wide hv hg hw k (by omega) (by omega)
    have a1 := line_in (zs := zs) (n := n) (wd := wd) (gap := gap) (k := k) (by omega)
    have a2 := line_in (zs := zs) (n := n) (wd := wd') (gap := gap) (k := k) (by omega)
    have g1 := ln_ge (zs := zs) (n := n) (wd := wd') (gap := gap) (st zs n wd' gap k)
    rw [st_succ, st_succ]
    generalize st zs n wd gap k = a at *
    generalize st zs n wd' gap k = b at *
    rcases Nat.lt_or_ge (b + ln zs n wd' gap b) (a + ln zs n wd gap a) with hlt | hge
    · exfalso
      have h1 := ln_out (zs := zs) (n := n) (wd := wd') (gap := gap) (a := b) (by omega)
      obtain ⟨i, rfl⟩ : ∃ i, b = a + i := ⟨b - a, by omega⟩
      have h2 := usd_le hv hg (a := a) i (ln zs n wd' gap (a + i)) (by omega)
      have h3 := ln_in (zs := zs) (n := n) (wd := wd) (gap := gap) (a := a) (j := i + ln zs n wd' gap (a + i)) (by omega) (by omega)
      omega
    · exact hge
theorem nl_wide (hv : prsB n zs = true) (hg : 0 ≤ gap ∧ gap ≤ 50) (hw : wd ≤ wd') : nl zs n wd' gap ≤ nl zs n wd gap := by
  rcases Nat.lt_or_ge (nl zs n wd gap) (nl zs n wd' gap) with h | h
  · have h1 := st_wide hv hg hw (nl zs n wd gap) (Nat.le_refl _) (by omega)
    have h2 := st_lt h
    rw [st_nl] at h1
    omega
  · exact h
theorem lcA_wide (hv : wrOk zs n wd gap = true) (hw : wd ≤ wd') (h1 : wd' ≤ 10000) : (lcA zs n wd' gap).length ≤ (lcA zs n wd gap).length := by
  obtain ⟨a, b, c⟩ := wrOk_iff.1 hv
  rw [lcA, if_pos (wrOk_iff.2 ⟨a, by omega, c⟩), lcA, if_pos hv, cnL_len, cnL_len]
  exact nl_wide a c hw
end Go.Proofs.Ytlmamglckamjjaa
