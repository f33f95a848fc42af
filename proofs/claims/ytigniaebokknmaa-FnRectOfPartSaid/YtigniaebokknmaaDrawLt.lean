/- The drawn arguments of LayoutTree, Spilling and RectOf. Condition: the code can be read. -/
import Derived.Test.YtigniaebokknmaaDrawTt
import Derived.Test.YtigniaebokknmaaDrawSd
namespace Go.Proofs.Ytigniaebokknmaa
open Go.RowKit

def DrawnS2 (w : World) (e : Ending) (w' : World) : Prop := ∃ (B : Option Addr) (n c : Nat) (ys : List Int) (x y : Int), e = .returned (.tuple #[.slice B n c, .int .i64 x, .int .i64 y]) ∧ Sts 9 w' B n ys ∧ n ≤ 16 ∧ n ≤ c ∧ (-1 ≤ x ∧ x ≤ 10001) ∧ (-1 ≤ y ∧ y ≤ 10001) ∧ New w w'
def DrawnS3 (w : World) (e : Ending) (w' : World) : Prop := ∃ (B : Option Addr) (n c : Nat) (ys : List Int) (x y z : Int), e = .returned (.tuple #[.slice B n c, .int .i64 x, .int .i64 y, .int .i64 z]) ∧ Sts 9 w' B n ys ∧ n ≤ 16 ∧ n ≤ c ∧ (-1 ≤ x ∧ x ≤ 10001) ∧ (-1 ≤ y ∧ y ≤ 10001) ∧ (-1 ≤ z ∧ z ≤ 16) ∧ New w w'
set_option maxHeartbeats 2000000 in
theorem DrawLayoutTree_any (A : Option Addr) (n c : Nat) (hn : n ≤ maxLen) (hnc : n ≤ c) (w : World) (hb : Bytes w A n) :
    Calls Try.prog 8 #[.slice A n c] w (DrawnS2 w) := by
  have HB := Lib.hid hb
  clear hb
  go_enter Try.func8, Try.ntmps8
  go_wp2_with fail
  refine (newReader_any A n c hn hnc _ HB.out).mono ?_
  rintro e w1 ⟨rfl, ⟨m, hm, R1⟩, N1, z1⟩
  replace R1 := Lib.hid R1; replace N1 := Lib.hid N1
  go_wp2_with fail
  refine (anyTree_any w.heap.size A m 0 (by omega) hm _ R1.out).mono ?_
  rintro e w2 ⟨B, k, d, ys, rfl, k16, kd, S2, ⟨q2, lq2, R2⟩, G2⟩
  replace S2 := Lib.hid S2; replace R2 := Lib.hid R2; replace G2 := Lib.hid G2
  go_wp2_with fail
  refine (someSide_any w.heap.size A m (q2) (by omega) hm _ R2.out).mono ?_
  rintro e w3 ⟨x, rfl, xb, R3, G3⟩
  have G3x := Lib.hid (only_trans only_refl G3)
  replace R3 := Lib.hid R3; replace G3 := Lib.hid (only_trans G2.out G3)
  go_wp2_with fail
  refine (someSide_any w.heap.size A m (q2 + 1) (by omega) hm _ R3.out).mono ?_
  rintro e w4 ⟨y, rfl, yb, R4, G4⟩
  have G4x := Lib.hid (only_trans G3x.out G4)
  replace R4 := Lib.hid R4; replace G4 := Lib.hid (only_trans G3.out G4)
  have S9 := Lib.hid (S2.out _ (Chg.of_grown G4x.out (Nat.zero_le _) z1))
  have N9 := Lib.hid (new_only N1.out (Nat.le_refl _) G4.out)
  clear S2 R2 G2 R3 G3 R4 G4 G3x G4x
  go_wp2
  refine bodyPost_ret (v := .tuple #[.slice B k d, .int .i64 x, .int .i64 y]) (by simp [results, Try.results8, go_sem]) rfl ?_
  exact ⟨B, k, d, ys, x, y, rfl, S9.out, k16, kd, xb, yb, N9.out⟩
set_option maxHeartbeats 2000000 in
theorem DrawRectOf_any (A : Option Addr) (n c : Nat) (hn : n ≤ maxLen) (hnc : n ≤ c) (w : World) (hb : Bytes w A n) :
    Calls Try.prog 17 #[.slice A n c] w (DrawnS3 w) := by
  have HB := Lib.hid hb
  clear hb
  go_enter Try.func17, Try.ntmps17
  go_wp2_with fail
  refine (newReader_any A n c hn hnc _ HB.out).mono ?_
  rintro e w1 ⟨rfl, ⟨m, hm, R1⟩, N1, z1⟩
  replace R1 := Lib.hid R1; replace N1 := Lib.hid N1
  go_wp2_with fail
  refine (anyTree_any w.heap.size A m 0 (by omega) hm _ R1.out).mono ?_
  rintro e w2 ⟨B, k, d, ys, rfl, k16, kd, S2, ⟨q2, lq2, R2⟩, G2⟩
  replace S2 := Lib.hid S2; replace R2 := Lib.hid R2; replace G2 := Lib.hid G2
  go_wp2_with fail
  refine (someSide_any w.heap.size A m (q2) (by omega) hm _ R2.out).mono ?_
  rintro e w3 ⟨x, rfl, xb, R3, G3⟩
  have G3x := Lib.hid (only_trans only_refl G3)
  replace R3 := Lib.hid R3; replace G3 := Lib.hid (only_trans G2.out G3)
  go_wp2_with fail
  refine (someSide_any w.heap.size A m (q2 + 1) (by omega) hm _ R3.out).mono ?_
  rintro e w4 ⟨y, rfl, yb, R4, G4⟩
  have G4x := Lib.hid (only_trans G3x.out G4)
  replace R4 := Lib.hid R4; replace G4 := Lib.hid (only_trans G3.out G4)
  go_wp2_with fail
  refine (someAt_any w.heap.size A m (q2 + 1 + 1) (by omega) hm B k d k16 _ R4.out).mono ?_
  rintro e w5 ⟨z, rfl, zb, ⟨q5, lq5, R5⟩, G5⟩
  have G5x := Lib.hid (only_trans G4x.out G5)
  replace G5 := Lib.hid (only_trans G4.out G5)
  have S9 := Lib.hid (S2.out _ (Chg.of_grown G5x.out (Nat.zero_le _) z1))
  have N9 := Lib.hid (new_only N1.out (Nat.le_refl _) G5.out)
  clear S2 R2 G2 R3 G3 R4 G4 G3x G4x R5 G5 G5x
  go_wp2
  refine bodyPost_ret (v := .tuple #[.slice B k d, .int .i64 x, .int .i64 y, .int .i64 z]) (by simp [results, Try.results17, go_sem]) rfl ?_
  exact ⟨B, k, d, ys, x, y, z, rfl, S9.out, k16, kd, xb, yb, zb, N9.out⟩
end Go.Proofs.Ytigniaebokknmaa
