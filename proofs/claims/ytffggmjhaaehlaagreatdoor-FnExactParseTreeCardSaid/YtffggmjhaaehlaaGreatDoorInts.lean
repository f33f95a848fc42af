/- Slices of whole numbers: what it means that a slice reads as a list, and the helpers of the laws on such slices (equalInts, sum). Conditions: the slices can be read; the numbers are not too great for their sum. -/
import Derived.Test.YtffggmjhaaehlaaGreatDoorProg
import Derived.Test.YtffggmjhaaehlaaGreatDoorBase
import Derived.Deep.QuietTactic
import Derived.BigQuiet
namespace Go.Proofs.YtffggmjhaaehlaaGreatDoor
open Go.RowKit

/-- The slice of n elements from A on reads as the list zs. -/
structure Ints (w : World) (A : Option Addr) (n : Nat) (zs : List Int) : Prop where
  len : zs.length = n
  at_ : 0 < n → ∃ b off : Nat, A = some ⟨b, off, none⟩ ∧ b < w.heap.size ∧ ∀ i, i < n → w.cell? ⟨b, off + i, none⟩ = some (.int .i64 (zs.getD i 0))
theorem Ints.new {w w' : World} {A : Option Addr} {n : Nat} {zs : List Int} (h : Ints w A n zs) (hN : New w w') : Ints w' A n zs :=
  ⟨h.len, fun h0 => by
    obtain ⟨b, off, e, hb, hc⟩ := h.at_ h0
    exact ⟨b, off, e, Nat.lt_of_lt_of_le hb hN.le, fun i hi => (hN.cells b _ hb).trans (hc i hi)⟩⟩
theorem Ints.drewN {w : World} {A : Option Addr} {n : Nat} {zs : List Int} (h : Ints w A n zs) (k : Nat) : Ints (w.drewN k) A n zs := ⟨h.len, h.at_⟩
theorem take_snoc_i {zs : List Int} {k : Nat} (h : k < zs.length) : zs.take (k + 1) = zs.take k ++ [zs.getD k 0] := by
  rw [List.take_succ_eq_append_getElem h]; simp [h]

/-- Lists are equal from the front on. -/
theorem take_eq_step {xs ys : List Int} {k : Nat} (hx : k < xs.length) (hy : k < ys.length) (h : xs.take k = ys.take k) (he : xs.getD k 0 = ys.getD k 0) : xs.take (k + 1) = ys.take (k + 1) := by
  rw [take_snoc_i hx, take_snoc_i hy, h, he]
theorem ne_of_getD {xs ys : List Int} {k : Nat} (he : xs.getD k 0 ≠ ys.getD k 0) : xs ≠ ys := fun e => he (by rw [e])

theorem ret_int {a b : Int} (h : a = b) : Ending.returned (.int .i64 a) = .returned (.int .i64 b) := by rw [h]
/-- Numbers whose sums stay far from where arithmetic goes round. -/
def Sml (xs : List Int) : Prop := ∀ z ∈ xs, -1000000000 ≤ z ∧ z ≤ 1000000000
theorem getD_bd {xs : List Int} (h : Sml xs) (k : Nat) : -1000000000 ≤ xs.getD k 0 ∧ xs.getD k 0 ≤ 1000000000 := by
  by_cases hk : k < xs.length
  · have e : xs.getD k 0 = xs[k] := by simp [hk]
    rw [e]; exact h _ (List.getElem_mem hk)
  · have e : xs.getD k 0 = 0 := by simp [Nat.le_of_not_lt hk]
    rw [e]; omega
theorem sum_snoc {zs : List Int} {k : Nat} (h : k < zs.length) : (zs.take (k + 1)).sum = (zs.take k).sum + zs.getD k 0 := by
  rw [take_snoc_i h, List.sum_append]; simp
theorem sum_bd {xs : List Int} (h : Sml xs) (k : Nat) : -1000000000 * (k : Int) ≤ (xs.take k).sum ∧ (xs.take k).sum ≤ 1000000000 * (k : Int) := by
  induction k with
  | zero => simp
  | succ k ih =>
    by_cases hk : k < xs.length
    · rw [sum_snoc hk]
      have := getD_bd h k
      omega
    · rw [List.take_of_length_le (by omega)]
      rw [List.take_of_length_le (by omega)] at ih
      omega

end Go.Proofs.YtffggmjhaaehlaaGreatDoor
