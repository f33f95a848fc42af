/- Plain facts for the laws of joined rectangles. No condition. -/
import Derived.Test.YtckdokijmlpngaaPaiP
namespace Go.Proofs.Ytckdokijmlpngaa
open Go.RowKit

theorem in4_refl (a : R4) : in4 a a := by unfold in4; omega
/-- Each rectangle is in one of those that are kept. -/
theorem joined {zs : List Int} : ∀ {k : Nat}, (∀ j, j < k → rOk zs j = true) → (∀ j, j < k → jGood zs j = true) → ∀ i, i < k → ∃ t, t < (jTo zs k).2 ∧ in4 (rg zs i) (rg (jTo zs k).1 t)
  | 0, _, _, i, h => absurd h (by omega)
  | k + 1, h1, h2, i, hi => by
    obtain ⟨hl, hm, ho⟩ := kept (k := k) (fun j hj => h1 j (by omega)) (fun j hj => h2 j (by omega))
    have ih := joined (k := k) (fun j hj => h1 j (by omega)) (fun j hj => h2 j (by omega))
    have e := jTo_step zs k
    generalize jTo zs k = s at *
    obtain ⟨out, m⟩ := s
    dsimp only at hl hm ho ih
    unfold jStep at e
    dsimp only at e
    by_cases hj : jAt out m (rg zs k) < m
    · rw [if_pos hj] at e
      rw [e]
      dsimp only
      generalize jAt out m (rg zs k) = a at hj
      have key : ∀ t, t < m → in4 (rg out t) (rg (put4 out a (hu (rg out a) (rg zs k))) t) := fun t ht => by
        by_cases et : t = a
        · subst et; rw [put4_same _ (by rw [hl]; omega)]; exact hu_in1 _ _
        · rw [put4_other _ (by rw [hl]; omega) et]; exact in4_refl _
      by_cases ei : i = k
      · subst ei
        exact ⟨a, hj, by rw [put4_same _ (by rw [hl]; omega)]; exact hu_in2 _ _⟩
      · obtain ⟨t, ht, h⟩ := ih i (by omega)
        exact ⟨t, ht, in4_trans h (key t ht)⟩
    · rw [if_neg hj] at e
      rw [e]
      dsimp only
      by_cases ei : i = k
      · subst ei
        exact ⟨m, by omega, by rw [rg_app2 _ hl]; exact in4_refl _⟩
      · obtain ⟨t, ht, h⟩ := ih i (by omega)
        exact ⟨t, by omega, by rw [rg_app1 (by rw [hl]; omega)]; exact h⟩
/-- Joined rectangles have all points. -/
theorem join_ge {zs out : List Int} {n m : Nat} (h1 : ∀ j, j < n → rOk zs j = true) (h2 : ∀ j, j < n → ctOk zs j = true) (h3 : ∀ j, j < m → rOk out j = true) (h4 : ∀ j, j < m → ctOk out j = true)
    (h : ∀ i, i < n → ∃ t, t < m ∧ in4 (rg zs i) (rg out t)) : arTo zs n ≤ arTo out m := by
  obtain ⟨M, hM⟩ : ∃ M : Nat, 200040 ≤ M := ⟨200040, Nat.le_refl _⟩
  rw [arTo_win hM h1 h2, arTo_win hM h3 h4]
  refine win_le fun p q hp => ?_
  obtain ⟨k, hk, hin⟩ := anyTo_iff.1 hp
  obtain ⟨t, ht, hi⟩ := h k hk
  refine anyTo_iff.2 ⟨t, ht, ?_⟩
  have c := of_decide_eq_true hin
  unfold in4 rg at hi
  dsimp only at hi
  exact decide_eq_true (by omega)
end Go.Proofs.Ytckdokijmlpngaa
