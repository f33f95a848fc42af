/- The drawn arguments of HitBox and of SeenBoxes. Condition: the code can be read. -/
import Derived.Test.YtigniaebokknmaaGreatYB
import Derived.Test.YtigniaebokknmaaGreatDraw
namespace Go.Proofs.YtigniaebokknmaaGreat
open Go.RowKit

def DrawnS4 (w : World) (e : Ending) (w' : World) : Prop := ∃ (B : Option Addr) (n c : Nat) (ys : List Int) (x y p q : Int), e = .returned (.tuple #[.slice B n c, .int .i64 x, .int .i64 y, .int .i64 p, .int .i64 q]) ∧ Sts 9 w' B n ys ∧ n ≤ 16 ∧ n ≤ c ∧ (-1 ≤ x ∧ x ≤ 10001) ∧ (-1 ≤ y ∧ y ≤ 10001) ∧ New w w'
set_option maxHeartbeats 2000000 in
theorem DrawHitBox_any (A : Option Addr) (n c : Nat) (hn : n ≤ maxLen) (hnc : n ≤ c) (w : World) (hb : Bytes w A n) :
    Calls Tryz.prog 5 #[.slice A n c] w (DrawnS4 w) := by
  have HB := Lib.hid hb
  clear hb
  go_enter Tryz.func5, Tryz.ntmps5
  go_wp2_with fail
  refine (newReader_any A n c hn hnc _ HB.out).mono ?_
  rintro e w1 ⟨rfl, ⟨m, hm, R1⟩, N1, z1⟩
  replace R1 := Lib.hid R1; replace N1 := Lib.hid N1
  go_wp2_with fail
  refine (anyTree_any w.heap.size A m 0 (by omega) hm _ R1.out).mono ?_
  rintro e w2 ⟨B, k, d, ys, rfl, k16, kd, S2, ⟨q2, lq2, R2⟩, G2⟩
  replace S2 := Lib.hid S2; replace R2 := Lib.hid R2; replace G2 := Lib.hid G2
  have z2 := G2.out.size
  go_wp2_with fail
  refine (someSide_any w.heap.size A m (q2) (by omega) hm _ R2.out).mono ?_
  rintro e w3 ⟨x, rfl, xb, R3, G3⟩
  have G3x := Lib.hid (only_trans only_refl G3)
  replace R3 := Lib.hid R3; replace G3 := Lib.hid (only_trans G2.out G3)
  have zz3 := G3.out.size
  go_wp2_with fail
  refine (someSide_any w.heap.size A m (q2 + 1) (by omega) hm _ R3.out).mono ?_
  rintro e w4 ⟨y, rfl, yb, R4, G4⟩
  have G4x := Lib.hid (only_trans G3x.out G4)
  replace R4 := Lib.hid R4; replace G4 := Lib.hid (only_trans G3.out G4)
  have zz4 := G4.out.size
  go_wp2_with fail
  refine (pick_any 200 w.heap.size A m (q2 + 1 + 1) (by omega) hm _ R4.out).mono ?_
  rintro e w5 ⟨a, rfl, a0, a1, R5, G5⟩
  have z5 := G5.size
  have G5x := Lib.hid (only_trans G4x.out G5)
  replace R5 := Lib.hid R5; replace G5 := Lib.hid (only_trans G4.out G5)
  go_wp2_with fail
  refine (one_any [0, 5, 30, 99, 150, -1, a] (by simp) (by simp) w5.heap.size 7 w.heap.size A m (q2 + 1 + 1 + 1) (by omega) hm _ (R5.out.new (by (repeat (first | exact New.refl _ | assumption | refine New.alloc ?_ _ | refine New.drew ?_ | refine New.drewN ?_ _ | refine New.setCell ?_ (by first | omega | (simp; omega) | (simp; done)) _ | refine New.trans ?_ (by assumption))))) (by omega) (by simp) (lit_at [0, 5, 30, 99, 150, -1, a] _ _ _ rfl)).mono ?_
  rintro e w6 ⟨p, rfl, pm, R6, G6⟩
  have z6 := G6.size; rw [World.size_alloc] at z6
  have G6x := Lib.hid (only_trans (only_alloc G5x.out _) G6)
  replace R6 := Lib.hid R6; replace G6 := Lib.hid (only_trans (only_alloc G5.out _) G6)
  go_wp2_with fail
  refine (pick_any 200 w.heap.size A m (q2 + 1 + 1 + 1 + 1) (by omega) hm _ R6.out).mono ?_
  rintro e w7 ⟨b, rfl, b0, b1, R7, G7⟩
  have z7 := G7.size
  have G7x := Lib.hid (only_trans G6x.out G7)
  replace R7 := Lib.hid R7; replace G7 := Lib.hid (only_trans G6.out G7)
  go_wp2_with fail
  refine (one_any [0, 5, 30, 99, 150, -1, b] (by simp) (by simp) w7.heap.size 7 w.heap.size A m (q2 + 1 + 1 + 1 + 1 + 1) (by omega) hm _ (R7.out.new (by (repeat (first | exact New.refl _ | assumption | refine New.alloc ?_ _ | refine New.drew ?_ | refine New.drewN ?_ _ | refine New.setCell ?_ (by first | omega | (simp; omega) | (simp; done)) _ | refine New.trans ?_ (by assumption))))) (by omega) (by simp) (lit_at [0, 5, 30, 99, 150, -1, b] _ _ _ rfl)).mono ?_
  rintro e w8 ⟨q, rfl, qm, R8, G8⟩
  have z8 := G8.size; rw [World.size_alloc] at z8
  have G8x := Lib.hid (only_trans (only_alloc G7x.out _) G8)
  replace R8 := Lib.hid R8; replace G8 := Lib.hid (only_trans (only_alloc G7.out _) G8)
  have S9 := Lib.hid (S2.out _ (Chg.of_grown G8x.out (Nat.zero_le _) z1))
  have N9 := Lib.hid (new_only N1.out (Nat.le_refl _) G8.out)
  clear S2 R2 G2 R3 G3 R4 G4 G3x G4x R5 G5 G5x R6 G6 G6x R7 G7 G7x R8 G8 G8x
  go_wp2
  refine bodyPost_ret (v := .tuple #[.slice B k d, .int .i64 x, .int .i64 y, .int .i64 p, .int .i64 q]) (by simp [results, Tryz.results5, go_sem]) rfl ?_
  exact ⟨B, k, d, ys, x, y, p, q, rfl, S9.out, k16, kd, xb, yb, N9.out⟩
end Go.Proofs.YtigniaebokknmaaGreat
