/- The program's spareInFront, walked: what is in front of each size, by the way to justify. Condition: a spare space and up to eight sizes. -/
import Derived.Test.YtnipnemhbelcaaaRepeat
import Derived.Test.YtnipnemhbelcaaaShareZ
import Derived.Deep.RegionHeld3
namespace Go.Proofs.Ytnipnemhbelcaaa
open Go.RowKit

/-- What is in front of each of n sizes. -/
def frontL (s : Int) (n : Nat) (j : Int) : List Int :=
  if j = 1 then (List.replicate n 0).set 0 s else if j = 2 then (List.replicate n 0).set 0 (s / 2) else if j = 3 then splice (List.replicate n 0) 1 (shareA s (onesL (n - 1))) else List.replicate n 0
theorem shareA_ones (s : Int) (n : Nat) (hs : 0 ≤ s ∧ s ≤ 200000) (hn : n ≤ 8) : (shareA s (onesL (n - 1))).length = n - 1 := by
  unfold shareA
  by_cases h : 1 ≤ n - 1
  · have ok : shOk s (onesL (n - 1)) = true := by
      unfold shOk
      rw [Bool.and_eq_true, decide_eq_true_eq]
      exact ⟨hs, rowB_iff.2 ⟨by rw [ones_len]; omega, ones_wts _⟩⟩
    rw [if_pos ok, shareL_len, ones_len]
  · have ok : ¬ shOk s (onesL (n - 1)) = true := by
      unfold shOk
      rw [Bool.and_eq_true]
      intro h'
      have := (rowB_len h'.2).1
      rw [ones_len] at this
      omega
    rw [if_neg ok]
    simp; omega
theorem ints1 {w : World} {g : Nat} {z : Int} (h : w.cell? ⟨g, 0, none⟩ = some (.int .i64 z)) : Ints w (some ⟨g, 0, none⟩) 1 [z] :=
  ⟨rfl, fun _ => ⟨g, 0, rfl, World.block_lt_of_cell? w _ h, fun i hi => by
    obtain rfl : i = 0 := by omega
    exact h⟩⟩
end Go.Proofs.Ytnipnemhbelcaaa
