/- Plain facts: two rectangles, joined. No condition. -/
import Derived.Test.YtckdokijmlpngaaJoiP
namespace Go.Proofs.Ytckdokijmlpngaa
open Go.RowKit

theorem jTo_one (zs : List Int) : jTo zs 1 = (l4 (rg zs 0), 1) := by
  rw [jTo_step]
  unfold jStep
  rw [show jAt (jTo zs 0).1 (jTo zs 0).2 (rg zs 0) = 0 from jAt_no (fun i h => absurd h (by simp [jTo]))]
  rfl
theorem jAt_one (zs : List Int) : jAt (l4 (rg zs 0)) 1 (rg zs 1) = if m4 (rg zs 0) (rg zs 1) then 0 else 1 := by
  have e : rg (l4 (rg zs 0)) 0 = rg zs 0 := rfl
  by_cases h : m4 (rg zs 0) (rg zs 1) = true
  · rw [if_pos h]
    exact jAt_yes (by omega) (fun i hi => absurd hi (by omega)) (by rw [e, m4_comm]; exact h)
  · rw [if_neg h]
    refine jAt_no fun i hi => ?_
    obtain rfl : i = 0 := by omega
    rw [e, m4_comm]; simpa using h
theorem jTo_two (zs : List Int) : jTo zs 2 = if m4 (rg zs 0) (rg zs 1) then (l4 (hu (rg zs 0) (rg zs 1)), 1) else (l4 (rg zs 0) ++ l4 (rg zs 1), 2) := by
  rw [jTo_step, jTo_one]
  unfold jStep
  dsimp only
  rw [jAt_one]
  by_cases h : m4 (rg zs 0) (rg zs 1) = true
  · rw [if_pos h, if_pos h, if_pos (by omega)]; rfl
  · rw [if_neg h, if_neg h, if_neg (by omega)]
theorem jGood_zero (zs : List Int) : jGood zs 0 = true := by
  unfold jGood
  rw [show jAt (jTo zs 0).1 (jTo zs 0).2 (rg zs 0) = 0 from jAt_no (fun i h => absurd h (by simp [jTo]))]
  rfl
theorem jGood_one (zs : List Int) : jGood zs 1 = (!(m4 (rg zs 0) (rg zs 1)) || v4 (hu (rg zs 0) (rg zs 1))) := by
  unfold jGood
  rw [jTo_one]
  dsimp only
  rw [jAt_one]
  cases h : m4 (rg zs 0) (rg zs 1)
  · rfl
  · rfl
theorem jB_two {zs : List Int} (h0 : rOk zs 0 = true) (h1 : rOk zs 1 = true) (h : jGood zs 1 = true) : jB 2 zs = true :=
  jB_iff.2 ⟨by omega, fun k hk => by
    rcases Nat.lt_or_ge k 1 with a | a
    · obtain rfl : k = 0 := by omega
      exact h0
    · obtain rfl : k = 1 := by omega
      exact h1, fun k hk => by
    rcases Nat.lt_or_ge k 1 with a | a
    · obtain rfl : k = 0 := by omega
      exact jGood_zero zs
    · obtain rfl : k = 1 := by omega
      exact h⟩
theorem rg_take8 (zs : List Int) {k : Nat} (h : k < 2) : rg (zs.take 8) k = rg zs k := by
  unfold rg
  have e : ∀ i, i < 8 → (zs.take 8).getD i 0 = zs.getD i 0 := fun i hi => by
    rw [List.getD_eq_getElem?_getD, List.getD_eq_getElem?_getD, List.getElem?_take_of_lt hi]
  rw [e _ (by omega), e _ (by omega), e _ (by omega), e _ (by omega)]
theorem take8 {zs : List Int} (h : 8 ≤ zs.length) : zs.take 8 = l4 (rg zs 0) ++ l4 (rg zs 1) := by
  match zs, h with
  | a :: b :: c :: d :: e :: f :: g :: i :: r, _ => rfl
theorem jB_take {zs : List Int} {n : Nat} (hn : 2 ≤ n) (h1 : ∀ k, k < n → rOk zs k = true) (h2 : ∀ k, k < n → jGood zs k = true) : jB 2 (zs.take 8) = true ∧ jA 2 (zs.take 8) = (jTo zs 2).1 := by
  have r0 := rg_take8 zs (k := 0) (by omega); have r1 := rg_take8 zs (k := 1) (by omega)
  have hb : jB 2 (zs.take 8) = true := by
    refine jB_two ?_ ?_ ?_
    · exact (show v4 (rg (zs.take 8) 0) = true by rw [r0]; exact h1 0 (by omega))
    · exact (show v4 (rg (zs.take 8) 1) = true by rw [r1]; exact h1 1 (by omega))
    · rw [jGood_one, r0, r1, ← jGood_one]; exact h2 1 (by omega)
  refine ⟨hb, ?_⟩
  rw [jA_yes hb, jTo_two, jTo_two, r0, r1]
theorem hu_self (r : R4) (h : v4 r = true) : hu r r = r := by
  have := vR_iff.1 h
  unfold hu uW mn mx
  exact Prod.ext (by dsimp only; omega) (Prod.ext (by dsimp only; omega) (Prod.ext (by dsimp only; omega) (by dsimp only; omega)))
theorem jB_twice {r : R4} (h : v4 r = true) : jB 2 (l4 r ++ l4 r) = true ∧ (m4 r r = true → jA 2 (l4 r ++ l4 r) = l4 r) ∧ (jA 2 (l4 r ++ l4 r)).length ≤ 8 := by
  have e0 : rg (l4 r ++ l4 r) 0 = r := rfl
  have e1 : rg (l4 r ++ l4 r) 1 = r := rfl
  have hb : jB 2 (l4 r ++ l4 r) = true := jB_two h h (by rw [jGood_one, e0, e1, hu_self r h, h, Bool.or_true])
  have ht := jTo_two (l4 r ++ l4 r)
  rw [e0, e1, hu_self r h] at ht
  refine ⟨hb, fun hm => ?_, ?_⟩
  · rw [jA_yes hb, ht, if_pos hm]
  · rw [jA_yes hb, ht]
    split <;> simp [l4]
theorem m4_self {r : R4} (h : v4 r = true) : m4 r r = (decide (0 < r.2.2.1) && decide (0 < r.2.2.2)) := by
  have := vR_iff.1 h
  unfold m4
  rw [Bool.eq_iff_iff, mOk_iff, Bool.and_eq_true, decide_eq_true_iff, decide_eq_true_iff]
  constructor
  · rintro ⟨_, _, a, b⟩; unfold mW mx mn at a b; omega
  · rintro ⟨a, b⟩; exact ⟨h, h, by unfold mW mx mn; omega, by unfold mW mx mn; omega⟩
end Go.Proofs.Ytckdokijmlpngaa
