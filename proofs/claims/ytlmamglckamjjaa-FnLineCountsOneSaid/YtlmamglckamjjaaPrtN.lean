/- Lines of a screen without width. -/
import Derived.Test.YtlmamglckamjjaaPrtM
namespace Go.Proofs.Ytlmamglckamjjaa
variable {zs : List Int} {n : Nat} {wd gap : Int}
theorem ln_one (hg : 0 ≤ gap ∧ gap ≤ 50) (hp : ∀ k, k < n → 0 < pw zs k) {a : Nat} (ha : a < n) : ln zs n 0 gap a = 1 :=
  (ln_eq (Nat.le_refl 1) (by omega) (fun j h1 h2 => absurd h2 (by omega)) (by
    rcases Nat.lt_or_ge (a + 1) n with h | h
    · right
      have h1 := hp a ha
      have h2 := hp (a + 1) h
      show 0 < pw zs a + (gap + pw zs (a + 0 + 1))
      rw [Nat.add_zero]
      omega
    · left; omega)).symm
theorem st_one (hg : 0 ≤ gap ∧ gap ≤ 50) (hp : ∀ k, k < n → 0 < pw zs k) : ∀ k, k ≤ n → st zs n 0 gap k = k
  | 0, _ => rfl
  | k + 1, h => by rw [st_succ, st_one hg hp k (by omega), ln_one hg hp (by omega)]
theorem nl_one (hg : 0 ≤ gap ∧ gap ≤ 50) (hp : ∀ k, k < n → 0 < pw zs k) : nl zs n 0 gap = n := by
  have h1 := nl_le (zs := zs) (n := n) (wd := 0) (gap := gap)
  have h2 := st_nl (zs := zs) (n := n) (wd := 0) (gap := gap)
  rw [st_one hg hp _ h1] at h2
  exact h2
theorem lcA_one (hv : wrOk zs n wd gap = true) (hp : ∀ k, k < n → 0 < pw zs k) : (lcA zs n 0 gap).length = n := by
  obtain ⟨h1, h2, h3⟩ := wrOk_iff.1 hv
  rw [lcA, if_pos (wrOk_iff.2 ⟨h1, by omega, h3⟩), cnL_len, nl_one h3 hp]
end Go.Proofs.Ytlmamglckamjjaa
