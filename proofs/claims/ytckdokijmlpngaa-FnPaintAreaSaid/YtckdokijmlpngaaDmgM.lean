/- Plain facts: the least rectangle around all rectangles at which two rows differ. No condition. -/
import Derived.Test.YtckdokijmlpngaaPntM
import Derived.Test.YtckdokijmlpngaaHullW
namespace Go.Proofs.Ytckdokijmlpngaa
open Go.RowKit

abbrev R4 := Int × Int × Int × Int
/-- The k-th rectangle of a row. -/
def rg (zs : List Int) (k : Nat) : R4 := (zs.getD (k * 4) 0, zs.getD (k * 4 + 1) 0, zs.getD (k * 4 + 2) 0, zs.getD (k * 4 + 3) 0)
def hu (a b : R4) : R4 := (mn a.1 b.1, mn a.2.1 b.2.1, uW a.1 a.2.2.1 b.1 b.2.2.1, uW a.2.1 a.2.2.2 b.2.1 b.2.2.2)
def w4 (a : R4) : Prop := wR a.1 a.2.1 a.2.2.1 a.2.2.2
def v4 (a : R4) : Bool := vR a.1 a.2.1 a.2.2.1 a.2.2.2
def l4 (a : R4) : List Int := [a.1, a.2.1, a.2.2.1, a.2.2.2]
theorem w4_hu {a b : R4} (h1 : w4 a) (h2 : w4 b) : w4 (hu a b) := wR_hull h1 h2
theorem w4_rg {zs : List Int} {k : Nat} (h : rOk zs k = true) : w4 (rg zs k) := wR_of h
/-- What the hull is behind the first k of the numbers at which the rows differ. -/
def dmTo (xs ys js : List Int) : Nat → R4
  | 0 => rg xs (js.getD 0 0).toNat
  | k + 1 => hu (hu (dmTo xs ys js k) (rg xs (js.getD k 0).toNat)) (rg ys (js.getD k 0).toNat)
theorem dmTo_zero (xs ys js : List Int) : dmTo xs ys js 0 = rg xs (js.getD 0 0).toNat := rfl
theorem dmTo_step (xs ys js : List Int) (k : Nat) : dmTo xs ys js (k + 1) = hu (hu (dmTo xs ys js k) (rg xs (js.getD k 0).toNat)) (rg ys (js.getD k 0).toNat) := rfl
def dmR (n m : Nat) (xs ys : List Int) : R4 := dmTo xs ys (chgA n m xs ys) (chgA n m xs ys).length
def dmB (n m : Nat) (xs ys : List Int) : Bool := decide (0 < (chgA n m xs ys).length) && v4 (dmR n m xs ys)
def dmQ (n m : Nat) (xs ys : List Int) : R4 := if dmB n m xs ys then dmR n m xs ys else (0, 0, 0, 0)
/-- What the numbers of the changed ones are. -/
theorem chgA_at {n m : Nat} {xs ys : List Int} {k : Nat} (h : k < (chgA n m xs ys).length) : ∃ i : Nat, (chgA n m xs ys).getD k 0 = (i : Int) ∧ i < n ∧ i < m ∧ rOk xs i = true ∧ rOk ys i = true ∧ same4 xs ys i = false := by
  have e : (chgA n m xs ys).getD k 0 = (chgA n m xs ys)[k] := by simp [h]
  have hm : (chgA n m xs ys)[k] ∈ chgA n m xs ys := List.getElem_mem h
  rw [← e] at hm
  generalize (chgA n m xs ys).getD k 0 = z at hm
  unfold chgA at hm
  split at hm
  · next hc =>
    obtain ⟨i, hi, hs, hz⟩ := chgTo_mem.1 hm
    obtain ⟨hnm, h1, h2⟩ := chgOk_iff.1 hc
    exact ⟨i, hz, hi, by omega, (rsB_iff.1 h1).2 i hi, (rsB_iff.1 h2).2 i (by omega), hs⟩
  · cases hm
theorem dmTo_wide {n m : Nat} {xs ys : List Int} : ∀ {k : Nat}, 0 < (chgA n m xs ys).length → k ≤ (chgA n m xs ys).length → w4 (dmTo xs ys (chgA n m xs ys) k)
  | 0, h, _ => by
    obtain ⟨i, e, _, _, h1, _⟩ := chgA_at h
    rw [dmTo_zero, e]; exact w4_rg h1
  | k + 1, h, hk => by
    obtain ⟨i, e, _, _, h1, h2, _⟩ := chgA_at (show k < _ from hk)
    rw [dmTo_step, e]
    exact w4_hu (w4_hu (dmTo_wide h (by omega)) (w4_rg h1)) (w4_rg h2)
end Go.Proofs.Ytckdokijmlpngaa
