/- The program's check of a row of numbers, walked: one to eight numbers, each from 0 to a greatest one; not too many numbers. Condition: the row can be read. -/
import Derived.Test.YtnipnemhbelcaaaShareS
import Derived.Test.YtnipnemhbelcaaaSort
import Derived.Test.YtnipnemhbelcaaaListV
namespace Go.Proofs.Ytnipnemhbelcaaa
open Go.RowKit

/-- One to eight numbers from 0 to a greatest one. -/
def rowB (hi : Int) (xs : List Int) : Bool := decide (1 ≤ (xs.length : Int) ∧ (xs.length : Int) ≤ 8) && allB 0 hi xs
set_option maxHeartbeats 1000000 in
theorem validRow_any (A : Option Addr) (n c : Nat) (xs : List Int) (hi : Int) (hn : n ≤ 1048576) (w : World) (hx : Ints w A n xs) :
    Calls Try.prog 67 #[.slice A n c, .int .i64 hi] w fun e w' => e = .returned (.bool (rowB hi xs)) ∧ w = w' := by
  have HX := Lib.hid hx
  have lx := hx.len
  clear hx
  by_cases h0 : 0 < (n : Int)
  · have E : Hid (listB 8 hi xs = rowB hi xs) := Lib.hid (by
      unfold rowB listB
      rw [lx]
      congr 1
      rw [Bool.eq_iff_iff, decide_eq_true_eq, decide_eq_true_eq]
      omega)
    clear lx
    go_enter Try.func67, Try.ntmps67
    go_wp2_with (go_at_call 65; refine (validList_any A n c xs _ _ hn _ HX.out).mono ?_; rw [E.out]; rintro e w' ⟨rfl, rfl⟩)
    go_ret
    exact ⟨rfl, rfl⟩
  · have E : rowB hi xs = false := by
      unfold rowB
      rw [lx, decide_eq_false (by omega), Bool.false_and]
    rw [E]
    clear lx E HX
    go_enter Try.func67, Try.ntmps67
    go_wp2
    go_ret
    exact ⟨rfl, rfl⟩
end Go.Proofs.Ytnipnemhbelcaaa
