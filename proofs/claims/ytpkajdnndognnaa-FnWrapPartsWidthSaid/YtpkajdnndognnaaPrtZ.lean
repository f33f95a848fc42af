/- Widths of lines as the laws add them up. -/
import Derived.Test.YtpkajdnndognnaaPrtM
namespace Go.Proofs.Ytpkajdnndognnaa
variable {zs : List Int} {n : Nat} {wd gap : Int}
/-- The widths of k parts from a on. -/
def pws (zs : List Int) (a : Nat) : Nat → Int
  | 0 => 0
  | k + 1 => pws zs a k + pw zs (a + k)
theorem usd_pws (a : Nat) : ∀ j, usd zs gap a j = pws zs a (j + 1) + gap * (j : Int)
  | 0 => by show pw zs a = 0 + pw zs (a + 0) + gap * 0; rw [Nat.add_zero]; omega
  | j + 1 => by
    have ih := usd_pws a j
    show usd zs gap a j + (gap + pw zs (a + j + 1)) = pws zs a (j + 1) + pw zs (a + (j + 1)) + gap * ((j : Int) + 1)
    rw [ih, show a + (j + 1) = a + j + 1 from rfl, Int.mul_add]
    omega
theorem pws_bd (h : prsB n zs = true) {a : Nat} : ∀ k, a + k ≤ n → 0 ≤ pws zs a k ∧ pws zs a k ≤ 10000 * (k : Int)
  | 0, _ => by simp [pws]
  | k + 1, hk => by
    have ih := pws_bd h (a := a) k (by omega)
    have p := (pr_bd h (k := a + k) (by omega)).1
    show 0 ≤ pws zs a k + pw zs (a + k) ∧ pws zs a k + pw zs (a + k) ≤ _
    omega
theorem cnL_sum : ∀ k, (cnL zs n wd gap k).sum = ((st zs n wd gap k : Nat) : Int)
  | 0 => rfl
  | k + 1 => by rw [cnL_step, List.sum_append, cnL_sum k, st_succ]; simp
theorem over {k : Nat} (hk : k + 1 < nl zs n wd gap) : wd < gap * ((ln zs n wd gap (st zs n wd gap k) : Nat) : Int) + pws zs (st zs n wd gap k) (ln zs n wd gap (st zs n wd gap k) + 1) := by
  have h := ln_out (zs := zs) (n := n) (wd := wd) (gap := gap) (a := st zs n wd gap k) (by have := st_lt hk; rw [st_succ] at this; exact this)
  rw [usd_pws] at h
  omega
end Go.Proofs.Ytpkajdnndognnaa
