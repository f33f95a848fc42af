/- Plain facts: how many points rectangles have together. No condition. -/
import Derived.Test.YtckdokijmlpngaaPaiM
namespace Go.Proofs.Ytckdokijmlpngaa
open Go.RowKit

def rArea (zs : List Int) (k : Nat) : Int := cnY k zs (zs.getD (k * 4) 0) (zs.getD (k * 4 + 1) 0) (zs.getD (k * 4 + 2) 0).toNat (zs.getD (k * 4 + 3) 0).toNat
/-- How many points the first k rectangles have together. -/
def arTo (zs : List Int) : Nat → Int
  | 0 => 0
  | k + 1 => arTo zs k + rArea zs k
theorem arTo_step (zs : List Int) (k : Nat) : arTo zs (k + 1) = arTo zs k + rArea zs k := rfl
def ctOk (zs : List Int) (k : Nat) : Bool := decide (zs.getD (k * 4 + 2) 0 ≤ 40 ∧ zs.getD (k * 4 + 3) 0 ≤ 40)
def paB (n : Nat) (zs : List Int) : Bool := rsB 6 n zs && allTo n (ctOk zs)
def paA (n : Nat) (zs : List Int) : Int := if paB n zs then arTo zs n else -1
theorem paB_iff {n : Nat} {zs : List Int} : paB n zs = true ↔ (n : Int) ≤ 6 ∧ (∀ k, k < n → rOk zs k = true) ∧ ∀ k, k < n → ctOk zs k = true := by
  unfold paB; rw [Bool.and_eq_true, rsB_iff, allTo_iff, and_assoc]
theorem rArea_bd {zs : List Int} {k : Nat} (h1 : rOk zs k = true) (h2 : ctOk zs k = true) : 0 ≤ rArea zs k ∧ rArea zs k ≤ 1600 := by
  have a := vR_iff.1 h1
  have b := of_decide_eq_true h2
  exact cnY_40 _ _ _ _ (by omega) (by omega)
theorem arTo_bd {zs : List Int} : ∀ {k : Nat}, (∀ j, j < k → rOk zs j = true) → (∀ j, j < k → ctOk zs j = true) → 0 ≤ arTo zs k ∧ arTo zs k ≤ 1600 * (k : Int)
  | 0, _, _ => ⟨Int.le_refl _, by simp [arTo]⟩
  | k + 1, h1, h2 => by
    have a := arTo_bd (k := k) (fun j hj => h1 j (by omega)) (fun j hj => h2 j (by omega))
    have b := rArea_bd (h1 k (by omega)) (h2 k (by omega))
    rw [arTo_step]; omega
theorem paA_yes {n : Nat} {zs : List Int} (h : paB n zs = true) : paA n zs = arTo zs n := by unfold paA; rw [if_pos h]
theorem paA_no {n : Nat} {zs : List Int} (h : paB n zs = false) : paA n zs = -1 := by unfold paA; rw [if_neg (by rw [h]; simp)]
theorem paB_no1 {n : Nat} {zs : List Int} (h : rsB 6 n zs = false) : paB n zs = false := by unfold paB; rw [h, Bool.false_and]
theorem paB_no2 {n k : Nat} {zs : List Int} (hk : k < n) (h : ctOk zs k = false) : paB n zs = false := by
  rw [Bool.eq_false_iff]; intro e; have := (paB_iff.1 e).2.2 k hk; rw [h] at this; cases this
end Go.Proofs.Ytckdokijmlpngaa
