/- The trees that the laws on texts draw. Condition: the bytes can be read. -/
import Derived.Test.YtffggmjhaaehlaaDoorDrawTt
namespace Go.Proofs.YtffggmjhaaehlaaDoor
open Go.RowKit

set_option maxHeartbeats 1000000 in
theorem DrawFormatTree_any (A : Option Addr) (n c : Nat) (hn : n ≤ maxLen) (hnc : n ≤ c) (w : World) (hb : Bytes w A n) :
    Calls Tryd.prog 11 #[.slice A n c] w (DrawnT1 w) := by
  have HB := Lib.hid hb
  clear hb
  go_enter Tryd.func11, Tryd.ntmps11
  go_wp2_with fail
  refine (newReader_any A n c hn hnc _ HB.out).mono ?_
  rintro e w1 ⟨rfl, ⟨m, hm, R1⟩, N1, z1⟩
  replace R1 := Lib.hid R1; replace N1 := Lib.hid N1
  go_wp2_with fail
  refine (anyTree_any w.heap.size A m 0 (by omega) hm _ R1.out).mono ?_
  rintro e w2 ⟨B, k, d, ys, rfl, k16, kd, S2, ⟨q2, lq2, R2⟩, G2⟩
  replace S2 := Lib.hid S2; replace R2 := Lib.hid R2; replace G2 := Lib.hid G2
  have S9 := Lib.hid (S2.out _ (Chg.refl _ _ _))
  have N9 := Lib.hid (new_only N1.out (Nat.le_refl _) G2.out)
  clear S2 R2 G2
  go_wp2
  go_ret
  exact ⟨B, k, d, ys, rfl, S9.out, k16, kd, N9.out⟩
end Go.Proofs.YtffggmjhaaehlaaDoor
