/- Lists of whole numbers in a range: the range tests of the program and of the reference. Conditions: the slice can be read. -/
import Derived.Test.YtffggmjhaaehlaaGreatDoorInts
namespace Go.Proofs.YtffggmjhaaehlaaGreatDoor
open Go.RowKit

/-- All numbers of a list are in a range. -/
def allB (lo hi : Int) (xs : List Int) : Bool := decide (∀ z ∈ xs, lo ≤ z ∧ z ≤ hi)
theorem allB_iff {lo hi : Int} {xs : List Int} : allB lo hi xs = true ↔ ∀ z ∈ xs, lo ≤ z ∧ z ≤ hi := by unfold allB; simp
theorem allB_no {lo hi : Int} {xs : List Int} {k : Nat} (hk : k < xs.length) (h : ¬ (lo ≤ xs.getD k 0 ∧ xs.getD k 0 ≤ hi)) : allB lo hi xs = false := by
  rw [Bool.eq_false_iff]; intro h'
  have e : xs.getD k 0 = xs[k] := by simp [hk]
  exact h (e ▸ allB_iff.1 h' _ (List.getElem_mem hk))
theorem allB_step {lo hi : Int} {xs : List Int} {k : Nat} (hk : k < xs.length) (h : ∀ z ∈ xs.take k, lo ≤ z ∧ z ≤ hi) (hz : lo ≤ xs.getD k 0 ∧ xs.getD k 0 ≤ hi) : ∀ z ∈ xs.take (k + 1), lo ≤ z ∧ z ≤ hi := by
  rw [take_snoc_i hk]; intro z hz'
  rcases List.mem_append.1 hz' with h1 | h1
  · exact h z h1
  · rw [List.mem_singleton.1 h1]; exact hz

set_option maxHeartbeats 400000 in
theorem within_any (n lo hi : Int) (w : World) :
    Calls Tryz.prog 45 #[.int .i64 n, .int .i64 lo, .int .i64 hi] w fun e w' => e = .returned (.bool (decide (lo ≤ n ∧ n ≤ hi))) ∧ w = w' := by
  go_enter Tryz.func45, Tryz.ntmps45
  go_wp2
  all_goals (go_ret; exact ⟨ret_bool (by rw [Bool.eq_iff_iff]; simp; omega), rfl⟩)

set_option maxHeartbeats 400000 in
theorem inRange_any (n lo hi : Int) (w : World) :
    Calls Tryz.prog 37 #[.int .i64 n, .int .i64 lo, .int .i64 hi] w fun e w' => e = .returned (.bool (decide (lo ≤ n ∧ n ≤ hi))) ∧ w = w' := by
  go_enter Tryz.func37, Tryz.ntmps37
  go_wp2
  all_goals (go_ret; exact ⟨ret_bool (by rw [Bool.eq_iff_iff]; simp; omega), rfl⟩)

end Go.Proofs.YtffggmjhaaehlaaGreatDoor
