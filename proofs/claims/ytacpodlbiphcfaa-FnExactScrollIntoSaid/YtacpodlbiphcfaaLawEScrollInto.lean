/- The law FnExactScrollInto, walked: both functions answer alike, whatever the numbers. No condition. -/
import Derived.Test.YtacpodlbiphcfaaScrM
namespace Go.Proofs.Ytacpodlbiphcfaa
open Go.RowKit

set_option maxHeartbeats 1000000 in
theorem lawExactScrollInto (cc v a l h : Int) (w : World) :
    Calls Try.prog 11 #[.int .i64 cc, .int .i64 v, .int .i64 a, .int .i64 l, .int .i64 h] w fun e w' => e = .returned (.bool true) ∧ New w w' := by
  generalize hz : siA cc v a l h = z
  have HZ := Lib.hid hz
  clear hz
  go_enter Try.func11, Try.ntmps11
  go_wp2_with (first
    | (go_at_call 16; ((with_reducible refine (ScrollInto_any _ _ _ _ _ _).mono ?_); rw [HZ.out]; rintro e w' ⟨rfl, rfl⟩))
    | (go_at_call 17; ((with_reducible refine (SScrollInto_any _ _ _ _ _ _).mono ?_); rw [HZ.out]; rintro e w' ⟨rfl, rfl⟩)))
  go_ret
  exact ⟨rfl, New.refl _⟩
end Go.Proofs.Ytacpodlbiphcfaa
