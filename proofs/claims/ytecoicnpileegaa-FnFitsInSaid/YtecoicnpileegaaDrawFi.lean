/- The drawn arguments of FitsIn. Condition: the code can be read. -/
import Derived.Test.YtecoicnpileegaaDrawTt
namespace Go.Proofs.Ytecoicnpileegaa
open Go.RowKit

def DrawnF (w : World) (e : Ending) (w' : World) : Prop := ∃ (B : Option Addr) (n c : Nat) (ys : List Int) (x y : Int), e = .returned (.tuple #[.slice B n c, .int .i64 x, .int .i64 y]) ∧ Sts 9 w' B n ys ∧ n ≤ 16 ∧ n ≤ c ∧ (20 ≤ x ∧ x ≤ 10000) ∧ (20 ≤ y ∧ y ≤ 10000) ∧ New w w'
set_option maxHeartbeats 2000000 in
theorem DrawFitsIn_any (A : Option Addr) (n c : Nat) (hn : n ≤ maxLen) (hnc : n ≤ c) (w : World) (hb : Bytes w A n) :
    Calls Try.prog 27 #[.slice A n c] w (DrawnF w) := by
  have HB := Lib.hid hb
  clear hb
  go_enter Try.func27, Try.ntmps27
  go_wp2_with fail
  refine (newReader_any A n c hn hnc _ HB.out).mono ?_
  rintro e w1 ⟨rfl, ⟨m, hm, R1⟩, N1, z1⟩
  replace R1 := Lib.hid R1; replace N1 := Lib.hid N1
  go_wp2_with fail
  refine (anyTree_any w.heap.size A m 0 (by omega) hm _ R1.out).mono ?_
  rintro e w2 ⟨B, k, d, ys, rfl, k16, kd, S2, ⟨q2, lq2, R2⟩, G2⟩
  replace S2 := Lib.hid S2; replace R2 := Lib.hid R2; replace G2 := Lib.hid G2
  have z2 := G2.out.size
  go_wp2_with fail
  refine (one_any [100, 200, 50, 400, 10000, 20] (by simp) (by simp) w2.heap.size 6 w.heap.size A m q2 (by omega) hm _ (R2.out.new (by (repeat (first | exact New.refl _ | assumption | refine New.alloc ?_ _ | refine New.drew ?_ | refine New.drewN ?_ _ | refine New.setCell ?_ (by first | omega | (simp; omega) | (simp; done)) _ | refine New.trans ?_ (by assumption))))) (by omega) (by simp) (lit_at [100, 200, 50, 400, 10000, 20] _ _ _ rfl)).mono ?_
  rintro e w3 ⟨x, rfl, hx, R3, G3⟩
  have xb : 20 ≤ x ∧ x ≤ 10000 := by simp at hx; omega
  have z3 := G3.size
  have G3x := Lib.hid (only_trans (only_alloc only_refl _) G3)
  replace R3 := Lib.hid R3; replace G3 := Lib.hid (only_trans (only_alloc G2.out _) G3)
  clear hx
  go_wp2_with fail
  refine (one_any [100, 200, 50, 400, 10000, 20] (by simp) (by simp) w3.heap.size 6 w.heap.size A m (q2 + 1) (by omega) hm _ (R3.out.new (by (repeat (first | exact New.refl _ | assumption | refine New.alloc ?_ _ | refine New.drew ?_ | refine New.drewN ?_ _ | refine New.setCell ?_ (by first | omega | (simp; omega) | (simp; done)) _ | refine New.trans ?_ (by assumption))))) (by rw [World.size_alloc] at z3; omega) (by simp) (lit_at [100, 200, 50, 400, 10000, 20] _ _ _ rfl)).mono ?_
  rintro e w4 ⟨y, rfl, hy, R4, G4⟩
  have yb : 20 ≤ y ∧ y ≤ 10000 := by simp at hy; omega
  have G4x := Lib.hid (only_trans (only_alloc G3x.out _) G4)
  replace G4 := Lib.hid (only_trans (only_alloc G3.out _) G4)
  have S9 := Lib.hid (S2.out _ (Chg.of_grown G4x.out (Nat.zero_le _) z1))
  have N9 := Lib.hid (new_only N1.out (Nat.le_refl _) G4.out)
  clear hy S2 R2 G2 R3 G3 R4 G4 G3x G4x
  go_wp2
  refine bodyPost_ret (v := .tuple #[.slice B k d, .int .i64 x, .int .i64 y]) (by simp [results, Try.results27, go_sem]) rfl ?_
  exact ⟨B, k, d, ys, x, y, rfl, S9.out, k16, kd, xb, yb, N9.out⟩
end Go.Proofs.Ytecoicnpileegaa
