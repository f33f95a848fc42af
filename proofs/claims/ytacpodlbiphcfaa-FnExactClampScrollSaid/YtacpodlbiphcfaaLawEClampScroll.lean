/- The law FnExactClampScroll, walked: both functions answer alike, whatever the numbers. No condition. -/
import Derived.Test.YtacpodlbiphcfaaScrM
namespace Go.Proofs.Ytacpodlbiphcfaa
open Go.RowKit

set_option maxHeartbeats 1000000 in
theorem lawExactClampScroll (cc v a : Int) (w : World) :
    Calls Try.prog 10 #[.int .i64 cc, .int .i64 v, .int .i64 a] w fun e w' => e = .returned (.bool true) ∧ New w w' := by
  generalize hz : clA cc v a = z
  have HZ := Lib.hid hz
  clear hz
  go_enter Try.func10, Try.ntmps10
  go_wp2_with (first
    | (go_at_call 13; ((with_reducible refine (ClampScroll_any _ _ _ _).mono ?_); rw [HZ.out]; rintro e w' ⟨rfl, rfl⟩))
    | (go_at_call 14; ((with_reducible refine (SClampScroll_any _ _ _ _).mono ?_); rw [HZ.out]; rintro e w' ⟨rfl, rfl⟩)))
  go_ret
  exact ⟨rfl, New.refl _⟩
end Go.Proofs.Ytacpodlbiphcfaa
