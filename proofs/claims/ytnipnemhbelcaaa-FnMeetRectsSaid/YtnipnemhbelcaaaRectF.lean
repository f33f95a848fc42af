/- The exported functions on rectangles, of the program and of the reference: insets. No condition. -/
import Derived.Test.YtnipnemhbelcaaaRectC
namespace Go.Proofs.Ytnipnemhbelcaaa
open Go.RowKit

/-- An edge is in its range. -/
def eB (e : Int) : Bool := decide (0 ≤ e ∧ e ≤ 50)
theorem eB_iff {e : Int} : eB e = true ↔ 0 ≤ e ∧ e ≤ 50 := by unfold eB; simp
theorem within_e (n : Int) (w : World) : Calls Try.prog 38 #[.int .i64 n, .int .i64 0, .int .i64 50] w fun e w' => e = .returned (.bool (eB n)) ∧ w = w' := within_any n 0 50 w
theorem inRange_e (n : Int) (w : World) : Calls Try.prog 43 #[.int .i64 n, .int .i64 0, .int .i64 50] w fun e w' => e = .returned (.bool (eB n)) ∧ w = w' := inRange_any n 0 50 w
end Go.Proofs.Ytnipnemhbelcaaa
