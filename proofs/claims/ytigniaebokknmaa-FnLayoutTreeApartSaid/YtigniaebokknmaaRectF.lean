/- The exported functions on rectangles, of the program and of the reference: insets. No condition. -/
import Derived.Test.YtigniaebokknmaaZR
namespace Go.Proofs.Ytigniaebokknmaa
open Go.RowKit

/-- An edge is in its range. -/
def eB (e : Int) : Bool := decide (0 ≤ e ∧ e ≤ 50)
theorem eB_iff {e : Int} : eB e = true ↔ 0 ≤ e ∧ e ≤ 50 := by unfold eB; simp
theorem within_e (n : Int) (w : World) : Calls Try.prog 25 #[.int .i64 n, .int .i64 0, .int .i64 50] w fun e w' => e = .returned (.bool (eB n)) ∧ w = w' := within_any n 0 50 w
theorem inRange_e (n : Int) (w : World) : Calls Try.prog 28 #[.int .i64 n, .int .i64 0, .int .i64 50] w fun e w' => e = .returned (.bool (eB n)) ∧ w = w' := inRange_any n 0 50 w
theorem inset_e (x y ww h ed : Int) (w : World) (hv : vR x y ww h = true) (he : eB ed = true) :
    Calls Try.prog 51 #[rc x y ww h, .int .i64 ed] w fun e w' => e = .returned (rc (nL x ww ed) (nL y h ed) (nW ww ed) (nW h ed)) ∧ New w w' := inset_any x y ww h ed w hv (eB_iff.1 he).1 (eB_iff.1 he).2
theorem sinset_e (x y ww h ed : Int) (w : World) (hv : vR x y ww h = true) (he : eB ed = true) :
    Calls Try.prog 68 #[rc x y ww h, .int .i64 ed] w fun e w' => e = .returned (rc (nL x ww ed) (nL y h ed) (nW ww ed) (nW h ed)) ∧ New w w' := sinset_any x y ww h ed w hv (eB_iff.1 he).1 (eB_iff.1 he).2

end Go.Proofs.Ytigniaebokknmaa
