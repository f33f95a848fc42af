/- Plain facts for the laws of chapter 16. No condition. -/
import Derived.Test.YtckdokijmlpngaaDmgM
import Derived.Test.YtckdokijmlpngaaIsIn
import Derived.Test.YtckdokijmlpngaaRFun
namespace Go.Proofs.Ytckdokijmlpngaa
open Go.RowKit

theorem inL_chg {xs ys : List Int} {n j : Nat} (h : j < n) : inL (chgTo xs ys n) j = !(same4 xs ys j) := by
  unfold inL
  cases hs : same4 xs ys j
  · rw [decide_eq_true (chgTo_mem.2 ⟨j, h, hs, rfl⟩)]; rfl
  · refine decide_eq_false fun hm => ?_
    obtain ⟨i, _, h2, e⟩ := chgTo_mem.1 hm
    obtain rfl : j = i := by omega
    rw [hs] at h2; cases h2
/-- A rectangle is wholly in another one. -/
def in4 (a b : R4) : Prop := b.1 ≤ a.1 ∧ b.2.1 ≤ a.2.1 ∧ a.1 + a.2.2.1 ≤ b.1 + b.2.2.1 ∧ a.2.1 + a.2.2.2 ≤ b.2.1 + b.2.2.2
theorem in4_trans {a b c : R4} (h1 : in4 a b) (h2 : in4 b c) : in4 a c := by unfold in4 at *; omega
theorem hu_in1 (a b : R4) : in4 a (hu a b) := by unfold in4 hu uW mn mx; dsimp only; omega
theorem hu_in2 (a b : R4) : in4 b (hu a b) := by unfold in4 hu uW mn mx; dsimp only; omega
theorem dm_in {xs ys js : List Int} : ∀ {n k : Nat}, k < n → in4 (rg xs (js.getD k 0).toNat) (dmTo xs ys js n) ∧ in4 (rg ys (js.getD k 0).toNat) (dmTo xs ys js n)
  | 0, _, h => absurd h (by omega)
  | n + 1, k, h => by
    rw [dmTo_step]
    rcases Nat.lt_or_eq_of_le (Nat.le_of_lt_succ h) with h1 | rfl
    · obtain ⟨a, b⟩ := dm_in (xs := xs) (ys := ys) (js := js) h1
      have c := in4_trans (hu_in1 (dmTo xs ys js n) (rg xs (js.getD n 0).toNat)) (hu_in1 _ (rg ys (js.getD n 0).toNat))
      exact ⟨in4_trans a c, in4_trans b c⟩
    · exact ⟨in4_trans (hu_in2 _ _) (hu_in1 _ _), hu_in2 _ _⟩
theorem hu_swap (d a b : R4) : hu (hu d a) b = hu (hu d b) a := by
  unfold hu uW mn mx
  refine Prod.ext (by dsimp only; omega) (Prod.ext (by dsimp only; omega) (Prod.ext (by dsimp only; omega) (by dsimp only; omega)))
theorem hu_first (a b : R4) : hu (hu a a) b = hu (hu b b) a := by
  unfold hu uW mn mx
  refine Prod.ext (by dsimp only; omega) (Prod.ext (by dsimp only; omega) (Prod.ext (by dsimp only; omega) (by dsimp only; omega)))
theorem dm_swap {xs ys js : List Int} : ∀ {k : Nat}, dmTo ys xs js (k + 1) = dmTo xs ys js (k + 1)
  | 0 => by rw [dmTo_step, dmTo_step, dmTo_zero, dmTo_zero]; exact hu_first _ _
  | k + 1 => by rw [dmTo_step, dm_swap (k := k), dmTo_step xs ys js (k + 1)]; exact hu_swap _ _ _
theorem dm_comm (n m : Nat) (xs ys : List Int) : dmB m n ys xs = dmB n m xs ys ∧ dmQ m n ys xs = dmQ n m xs ys := by
  have e := chgA_comm m n ys xs
  have key : 0 < (chgA n m xs ys).length → dmR m n ys xs = dmR n m xs ys := fun h => by
    unfold dmR
    rw [e]
    obtain ⟨k, hk⟩ : ∃ k, (chgA n m xs ys).length = k + 1 := ⟨(chgA n m xs ys).length - 1, by omega⟩
    rw [hk]; exact dm_swap
  have b : dmB m n ys xs = dmB n m xs ys := by
    unfold dmB
    rw [e]
    by_cases h : 0 < (chgA n m xs ys).length
    · rw [key h]
    · rw [decide_eq_false h, Bool.false_and, Bool.false_and]
  refine ⟨b, ?_⟩
  unfold dmQ
  rw [b]
  by_cases hb : dmB n m xs ys = true
  · rw [if_pos hb, if_pos hb]
    refine key ?_
    unfold dmB at hb
    rw [Bool.and_eq_true, decide_eq_true_iff] at hb
    exact hb.1
  · rw [if_neg hb, if_neg hb]
theorem dm_self (n : Nat) (xs : List Int) : dmB n n xs xs = false := by unfold dmB; rw [chgA_self]; rfl
theorem dmB_yes {n m : Nat} {xs ys : List Int} (h : dmB n m xs ys = true) : 0 < (chgA n m xs ys).length ∧ v4 (dmR n m xs ys) = true ∧ dmQ n m xs ys = dmR n m xs ys := by
  have h2 := h
  unfold dmB at h2
  rw [Bool.and_eq_true, decide_eq_true_iff] at h2
  exact ⟨h2.1, h2.2, by unfold dmQ; rw [if_pos h]⟩
theorem dmB_no {n m : Nat} {xs ys : List Int} (h : dmB n m xs ys = false) : dmQ n m xs ys = (0, 0, 0, 0) := by unfold dmQ; rw [if_neg (by rw [h]; simp)]
/-- Which of them have the hull's edges. -/
def edL (xs ys js : List Int) (q : Int) (t : Nat) : Bool := ((rg xs (js.getD t 0).toNat).1 == q) || ((rg ys (js.getD t 0).toNat).1 == q)
def edR (xs ys js : List Int) (q : Int) (t : Nat) : Bool := ((rg xs (js.getD t 0).toNat).1 + (rg xs (js.getD t 0).toNat).2.2.1 == q) || ((rg ys (js.getD t 0).toNat).1 + (rg ys (js.getD t 0).toNat).2.2.1 == q)
/-- Each edge of the hull is an edge of one of them. -/
theorem dm_left {xs ys js : List Int} : ∀ {k : Nat}, ∃ j, j < k + 1 ∧ ((rg xs (js.getD j 0).toNat).1 = (dmTo xs ys js (k + 1)).1 ∨ (rg ys (js.getD j 0).toNat).1 = (dmTo xs ys js (k + 1)).1)
  | 0 => ⟨0, by omega, by rw [dmTo_step, dmTo_zero]; unfold hu mn; dsimp only; omega⟩
  | k + 1 => by
    obtain ⟨j, hj, h⟩ := dm_left (xs := xs) (ys := ys) (js := js) (k := k)
    rw [dmTo_step xs ys js (k + 1)]
    by_cases h1 : (hu (hu (dmTo xs ys js (k + 1)) (rg xs (js.getD (k + 1) 0).toNat)) (rg ys (js.getD (k + 1) 0).toNat)).1 = (dmTo xs ys js (k + 1)).1
    · exact ⟨j, by omega, by rw [h1]; exact h⟩
    · exact ⟨k + 1, by omega, by unfold hu mn at *; dsimp only at *; omega⟩
theorem dm_right {xs ys js : List Int} : ∀ {k : Nat}, ∃ j, j < k + 1 ∧ ((rg xs (js.getD j 0).toNat).1 + (rg xs (js.getD j 0).toNat).2.2.1 = (dmTo xs ys js (k + 1)).1 + (dmTo xs ys js (k + 1)).2.2.1 ∨ (rg ys (js.getD j 0).toNat).1 + (rg ys (js.getD j 0).toNat).2.2.1 = (dmTo xs ys js (k + 1)).1 + (dmTo xs ys js (k + 1)).2.2.1)
  | 0 => ⟨0, by omega, by rw [dmTo_step, dmTo_zero]; unfold hu uW mn mx; dsimp only; omega⟩
  | k + 1 => by
    obtain ⟨j, hj, h⟩ := dm_right (xs := xs) (ys := ys) (js := js) (k := k)
    rw [dmTo_step xs ys js (k + 1)]
    by_cases h1 : (hu (hu (dmTo xs ys js (k + 1)) (rg xs (js.getD (k + 1) 0).toNat)) (rg ys (js.getD (k + 1) 0).toNat)).1 + (hu (hu (dmTo xs ys js (k + 1)) (rg xs (js.getD (k + 1) 0).toNat)) (rg ys (js.getD (k + 1) 0).toNat)).2.2.1 = (dmTo xs ys js (k + 1)).1 + (dmTo xs ys js (k + 1)).2.2.1
    · exact ⟨j, by omega, by rw [h1]; exact h⟩
    · exact ⟨k + 1, by omega, by unfold hu uW mn mx at *; dsimp only at *; omega⟩
end Go.Proofs.Ytckdokijmlpngaa
