/- Plain facts: the first two of a row of rectangles. No condition. -/
import Derived.Test.YtckdokijmlpngaaPaiP
namespace Go.Proofs.Ytckdokijmlpngaa
open Go.RowKit

theorem paA_take {zs : List Int} (h1 : ∀ j, j < 2 → rOk zs j = true) (h2 : ∀ j, j < 2 → ctOk zs j = true) : paA 2 (zs.take 8) = zs.getD 2 0 * zs.getD 3 0 + zs.getD 6 0 * zs.getD 7 0 - (if m4 (rg zs 0) (rg zs 1) then mW (zs.getD 0 0) (zs.getD 2 0) (zs.getD 4 0) (zs.getD 6 0) * mW (zs.getD 1 0) (zs.getD 3 0) (zs.getD 5 0) (zs.getD 7 0) else 0) := by
  have e : ∀ i, i < 8 → (zs.take 8).getD i 0 = zs.getD i 0 := fun i hi => getD_take_lt hi
  have r : ∀ k, k < 2 → rg (zs.take 8) k = rg zs k := fun k hk => by
    unfold rg
    rw [e _ (by omega), e _ (by omega), e _ (by omega), e _ (by omega)]
  have a1 : ∀ j, j < 2 → rOk (zs.take 8) j = true := fun j hj => (show v4 (rg (zs.take 8) j) = true by rw [r j hj]; exact h1 j hj)
  have a2 : ∀ j, j < 2 → ctOk (zs.take 8) j = true := fun j hj => by
    have := h2 j hj
    unfold ctOk at *
    rw [e _ (by omega), e _ (by omega)]; exact this
  rw [paA_yes (paB_iff.2 ⟨by omega, a1, a2⟩), arTo_two a1 a2, r 0 (by omega), r 1 (by omega), e 0 (by omega), e 1 (by omega), e 2 (by omega), e 3 (by omega), e 4 (by omega), e 5 (by omega), e 6 (by omega), e 7 (by omega)]
theorem paA_again {zs : List Int} {n : Nat} (hb : paB n zs = true) (hl : zs.length = n * 4) (h0 : 0 < n) (h5 : n ≤ 5) : paA (n + 1) (zs ++ l4 (rg zs 0)) = paA n zs := by
  obtain ⟨_, h1, h2⟩ := paB_iff.1 hb
  have e : ∀ i, i < n * 4 → (zs ++ l4 (rg zs 0)).getD i 0 = zs.getD i 0 := fun i hi => by
    rw [List.getD_eq_getElem?_getD, List.getD_eq_getElem?_getD, List.getElem?_append_left (by omega)]
  have g := rg_app2 (out := zs) (i := n) (rg zs 0) hl
  have a1 : ∀ j, j < n + 1 → rOk (zs ++ l4 (rg zs 0)) j = true := fun j hj => by
    rcases Nat.lt_or_ge j n with h | h
    · have := h1 j h
      unfold rOk at *
      rw [e _ (by omega), e _ (by omega), e _ (by omega), e _ (by omega)]; exact this
    · obtain rfl : j = n := by omega
      exact (show v4 (rg (zs ++ l4 (rg zs 0)) j) = true by rw [g]; exact h1 0 h0)
  have a2 : ∀ j, j < n + 1 → ctOk (zs ++ l4 (rg zs 0)) j = true := fun j hj => by
    rcases Nat.lt_or_ge j n with h | h
    · have := h2 j h
      unfold ctOk at *
      rw [e _ (by omega), e _ (by omega)]; exact this
    · obtain rfl : j = n := by omega
      have := h2 0 h0
      unfold ctOk at *
      unfold rg at g
      simp only [Prod.mk.injEq] at g
      unfold rg
      rw [g.2.2.1, g.2.2.2]; exact this
  rw [paA_yes (paB_iff.2 ⟨by omega, a1, a2⟩), paA_yes hb, arTo_again hl h0]
theorem paArea_bd {zs : List Int} {k : Nat} (h1 : rOk zs k = true) (h2 : ctOk zs k = true) : 0 ≤ zs.getD (k * 4 + 2) 0 * zs.getD (k * 4 + 3) 0 ∧ zs.getD (k * 4 + 2) 0 * zs.getD (k * 4 + 3) 0 ≤ 1600 := by
  obtain ⟨_, _, c, d⟩ := okc_bd h1 h2
  have f : zs.getD (k * 4 + 2) 0 * zs.getD (k * 4 + 3) 0 ≤ 40 * 40 := Int.mul_le_mul c.2 d.2 d.1 (by omega)
  exact ⟨Int.mul_nonneg c.1 d.1, by omega⟩
theorem pcommon_bd {zs : List Int} (h1 : ∀ j, j < 2 → rOk zs j = true) (h2 : ∀ j, j < 2 → ctOk zs j = true) (hm : m4 (rg zs 0) (rg zs 1) = true) : 0 ≤ mW (zs.getD 0 0) (zs.getD 2 0) (zs.getD 4 0) (zs.getD 6 0) * mW (zs.getD 1 0) (zs.getD 3 0) (zs.getD 5 0) (zs.getD 7 0) ∧ mW (zs.getD 0 0) (zs.getD 2 0) (zs.getD 4 0) (zs.getD 6 0) * mW (zs.getD 1 0) (zs.getD 3 0) (zs.getD 5 0) (zs.getD 7 0) ≤ 1600 := by
  obtain ⟨p0, p1, p2, p3⟩ := okc_bd (h1 0 (by omega)) (h2 0 (by omega))
  obtain ⟨q0, q1, q2, q3⟩ := okc_bd (h1 1 (by omega)) (h2 1 (by omega))
  simp only [Nat.reduceMul, Nat.reduceAdd] at p0 p1 p2 p3 q0 q1 q2 q3
  unfold m4 at hm
  obtain ⟨_, _, a, b⟩ := mOk_iff.1 hm
  unfold rg at a b
  simp only [Nat.reduceMul, Nat.reduceAdd] at a b
  have a2 : mW (zs.getD 0 0) (zs.getD 2 0) (zs.getD 4 0) (zs.getD 6 0) ≤ 40 := by unfold mW mx mn; omega
  have b2 : mW (zs.getD 1 0) (zs.getD 3 0) (zs.getD 5 0) (zs.getD 7 0) ≤ 40 := by unfold mW mx mn; omega
  have f := Int.mul_le_mul a2 b2 (Int.le_of_lt b) (show (0 : Int) ≤ 40 by omega)
  exact ⟨Int.mul_nonneg (Int.le_of_lt a) (Int.le_of_lt b), by omega⟩
end Go.Proofs.Ytckdokijmlpngaa
