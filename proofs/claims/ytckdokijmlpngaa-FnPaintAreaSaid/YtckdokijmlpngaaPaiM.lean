/- Plain facts: how many points of a rectangle lie in none of some others. No condition. -/
import Derived.Test.YtckdokijmlpngaaPntM
import Derived.Test.YtckdokijmlpngaaRFun
namespace Go.Proofs.Ytckdokijmlpngaa
open Go.RowKit

/-- A point lies in one of the first n rectangles. -/
def inK (zs : List Int) (x y : Int) (k : Nat) : Bool := hR (zs.getD (k * 4) 0) (zs.getD (k * 4 + 1) 0) (zs.getD (k * 4 + 2) 0) (zs.getD (k * 4 + 3) 0) x y
def inN (n : Nat) (zs : List Int) (x y : Int) : Bool := anyTo n (inK zs x y)
def oneIf (b : Bool) : Int := if b then 0 else 1
/-- Of m points side by side, those in none of the first n rectangles. -/
def cnX (n : Nat) (zs : List Int) (x y : Int) : Nat → Int
  | 0 => 0
  | j + 1 => cnX n zs x y j + oneIf (inN n zs (x + (j : Int)) y)
/-- The same in rows. -/
def cnY (n : Nat) (zs : List Int) (x y : Int) (m : Nat) : Nat → Int
  | 0 => 0
  | k + 1 => cnY n zs x y m k + cnX n zs x (y + (k : Int)) m
theorem cnX_step (n : Nat) (zs : List Int) (x y : Int) (j : Nat) : cnX n zs x y (j + 1) = cnX n zs x y j + oneIf (inN n zs (x + (j : Int)) y) := rfl
theorem cnY_step (n : Nat) (zs : List Int) (x y : Int) (m k : Nat) : cnY n zs x y m (k + 1) = cnY n zs x y m k + cnX n zs x (y + (k : Int)) m := rfl
theorem cnX_bd (n : Nat) (zs : List Int) (x y : Int) (j : Nat) : 0 ≤ cnX n zs x y j ∧ cnX n zs x y j ≤ (j : Int) := by
  induction j with
  | zero => exact ⟨Int.le_refl _, Int.le_refl _⟩
  | succ j ih => rw [cnX_step]; unfold oneIf; split <;> omega
theorem cnY_bd (n : Nat) (zs : List Int) (x y : Int) (m k : Nat) : 0 ≤ cnY n zs x y m k ∧ cnY n zs x y m k ≤ (k : Int) * (m : Int) := by
  induction k with
  | zero => exact ⟨Int.le_refl _, by simp [cnY]⟩
  | succ k ih =>
    have := cnX_bd n zs x (y + (k : Int)) m
    rw [cnY_step]
    rw [show ((k + 1 : Nat) : Int) * (m : Int) = (k : Int) * (m : Int) + (m : Int) by rw [Int.natCast_add, Int.add_mul]; simp]
    omega
theorem cnY_40 (n : Nat) (zs : List Int) (x y : Int) {m k : Nat} (hm : m ≤ 40) (hk : k ≤ 40) : 0 ≤ cnY n zs x y m k ∧ cnY n zs x y m k ≤ 1600 := by
  have h := cnY_bd n zs x y m k
  have h2 : k * m ≤ 40 * 40 := Nat.mul_le_mul hk hm
  have h3 : (k : Int) * (m : Int) = ((k * m : Nat) : Int) := by rw [Int.natCast_mul]
  omega
theorem getD_take_lt {zs : List Int} {m i : Nat} (h : i < m) : (zs.take m).getD i 0 = zs.getD i 0 := by
  rw [List.getD_eq_getElem?_getD, List.getD_eq_getElem?_getD, List.getElem?_take_of_lt h]
theorem inN_take (n : Nat) (zs : List Int) (x y : Int) : inN n (zs.take (n * 4)) x y = inN n zs x y := by
  unfold inN
  rw [Bool.eq_iff_iff, anyTo_iff, anyTo_iff]
  have e : ∀ k, k < n → inK (zs.take (n * 4)) x y k = inK zs x y k := fun k hk => by
    unfold inK
    rw [getD_take_lt (by omega), getD_take_lt (by omega), getD_take_lt (by omega), getD_take_lt (by omega)]
  constructor
  · rintro ⟨k, hk, h⟩; exact ⟨k, hk, (e k hk) ▸ h⟩
  · rintro ⟨k, hk, h⟩; exact ⟨k, hk, (e k hk).symm ▸ h⟩
theorem cnX_take (n : Nat) (zs : List Int) (x y : Int) (j : Nat) : cnX n (zs.take (n * 4)) x y j = cnX n zs x y j := by
  induction j with
  | zero => rfl
  | succ j ih => rw [cnX_step, cnX_step, ih, inN_take]
theorem cnY_take (n : Nat) (zs : List Int) (x y : Int) (m k : Nat) : cnY n (zs.take (n * 4)) x y m k = cnY n zs x y m k := by
  induction k with
  | zero => rfl
  | succ k ih => rw [cnY_step, cnY_step, ih, cnX_take]
theorem rOk_take {n k : Nat} {zs : List Int} (hk : k < n) : rOk (zs.take (n * 4)) k = rOk zs k := by
  unfold rOk
  rw [getD_take_lt (by omega), getD_take_lt (by omega), getD_take_lt (by omega), getD_take_lt (by omega)]
theorem Row.one1 (w : World) (y0 : Int) (t : TypeId) : Row (w.alloc (.cells #[.int .i64 y0] t)) w.heap.size [y0] :=
  ⟨by simp, fun i hi => by
    match i, hi with
    | 0, _ => simp [go_sem], fun i hi => by
    match i, hi with
    | 0, _ => simp [go_sem]⟩
end Go.Proofs.Ytckdokijmlpngaa
