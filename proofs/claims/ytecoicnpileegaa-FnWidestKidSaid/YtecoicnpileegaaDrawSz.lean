/- The drawn arguments of WidestKid. Condition: the code can be read. -/
import Derived.Test.YtecoicnpileegaaDrawTt
namespace Go.Proofs.Ytecoicnpileegaa
open Go.RowKit

set_option maxHeartbeats 2000000 in
theorem DrawWidestKid_any (A : Option Addr) (n c : Nat) (hn : n ≤ maxLen) (hnc : n ≤ c) (w : World) (hb : Bytes w A n) :
    Calls Try.prog 28 #[.slice A n c] w (DrawnT2 w) := by
  have HB := Lib.hid hb
  clear hb
  go_enter Try.func28, Try.ntmps28
  go_wp2_with fail
  refine (DrawKidsOf_any A n c hn hnc _ HB.out).mono ?_
  rintro e w1 ⟨B, k, d, ys, x, rfl, H⟩
  replace H := Lib.hid H
  go_wp2
  refine bodyPost_ret (v := .tuple #[.slice B k d, .int .i64 x]) (by simp [results, Try.results28, go_sem]) rfl ?_
  exact ⟨B, k, d, ys, x, rfl, H.out⟩
end Go.Proofs.Ytecoicnpileegaa
