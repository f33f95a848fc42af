/- The law FnExactRectOf, walked over what both functions do: whatever the tree and the numbers, both answers are the same, and the arguments are left alone. Conditions: the arguments can be read; both functions answer alike. -/
import Derived.Test.YtbpocogohfmoaaaZX
import Derived.Test.YtbpocogohfmoaaaZS
namespace Go.Proofs.Ytbpocogohfmoaaa
open Go.RowKit

set_option maxHeartbeats 4000000 in
theorem lawExactRectOf (Al : Option Addr) (nl cl : Nat) (xl : List Int) (a : Int) (b : Int) (d : Int) (z0 z1 z2 z3 : Int) (z4 : Bool)
    (hI : ∀ (Bl : Option Addr) (ml dl : Nat) (W : World), Sts 9 W Bl ml xl → ml ≤ 1048576 → Calls Try.prog 24 #[.slice Bl ml dl, .int .i64 a, .int .i64 b, .int .i64 d] W (fun e w' => e = .returned (.tuple #[.agg #[.int .i64 z0, .int .i64 z1, .int .i64 z2, .int .i64 z3], .bool z4]) ∧ New W w'))
    (hS : ∀ (Bl : Option Addr) (ml dl : Nat) (W : World), Sts 9 W Bl ml xl → ml ≤ 1048576 → Calls Try.prog 23 #[.slice Bl ml dl, .int .i64 a, .int .i64 b, .int .i64 d] W (fun e w' => e = .returned (.tuple #[.agg #[.int .i64 z0, .int .i64 z1, .int .i64 z2, .int .i64 z3], .bool z4]) ∧ New W w'))
    (w : World) (hxl : Sts 9 w Al nl xl) (hnl : nl ≤ maxLen) :
    Calls Try.prog 4 #[.slice Al nl cl, .int .i64 a, .int .i64 b, .int .i64 d] w fun e w' => e = .returned (.bool true) ∧ New w w' := by
  have HXl := Lib.hid hxl; have LXl := Lib.hid hxl.len; have HMl := Lib.hid hnl; unfold maxLen at hnl
  have HI := Lib.hid hI; have HS := Lib.hid hS
  clear hxl hI hS
  by_cases hbl : 1048576 < nl
  · go_enter Try.func4, Try.ntmps4
    go_wp2_with fail
    refine (szBox_no _ _ _ 1048576 HMl.out (by omega) _).mono ?_
    rintro e w' ⟨rfl, rfl⟩
    go_wp2
    go_ret
    exact ⟨rfl, by (repeat (first | exact New.refl _ | assumption | refine New.alloc ?_ _ | refine New.drew ?_ | refine New.drewN ?_ _ | refine New.setCell ?_ (by first | omega | (simp; omega) | (simp; done)) _ | refine New.trans ?_ (by assumption)))⟩
  have hml : nl ≤ 1048576 := by omega
  have hil : (nl : Int) ≤ 1048576 := by omega
  have hjl : (0 : Int) ≤ (nl : Int) := by omega
  go_enter Try.func4, Try.ntmps4
  go_wp2_with fail
  refine (szBox_ok _ _ _ 1048576 (by omega) (by omega) _).mono ?_
  rintro e w' ⟨rfl, rfl⟩
  go_wp2_with fail
  refine (toBoxS_any Al nl cl xl hml _ HXl.out).mono ?_
  rintro e w1 ⟨A1, n1, c1, rfl, l1, r1, N1a⟩
  have s1 := N1a.le
  have N1 := Lib.hid ((New.refl w).trans N1a); clear N1a
  have L1 := Lib.hid l1; have R1 := Lib.hid r1; have b1 : n1 ≤ 1048576 := by have := L1.out; have := LXl.out; omega
  have i1 : (n1 : Int) ≤ 1048576 := by omega
  have j1 : (0 : Int) ≤ (n1 : Int) := by omega
  clear l1 r1
  go_wp2_with fail
  refine (HS.out _ _ _ _ ((Sts.of_res R1.out L1.out)) b1).mono ?_
  rintro e w2 ⟨rfl, N2a⟩
  have s2 := N2a.le
  have R1 := Lib.hid (R1.out.new N2a)
  have N2 := Lib.hid (N1.out.trans N2a); clear N2a
  have RZ2 := Lib.hid (Row.oneRect w2 z0 z1 z2 z3 34)
  have R1 := Lib.hid (R1.out.new ((New.refl w2).alloc (.cells #[.int .i64 z0, .int .i64 z1, .int .i64 z2, .int .i64 z3] 34)))
  have M2 := Lib.hid (N2.out.alloc (.cells #[.int .i64 z0, .int .i64 z1, .int .i64 z2, .int .i64 z3] 34))
  have t2 : w2.heap.size < (w2.alloc (.cells #[.int .i64 z0, .int .i64 z1, .int .i64 z2, .int .i64 z3] 34)).heap.size := RZ2.out.lt
  go_wp2_with fail
  refine (toBoxS_any Al nl cl xl hml _ (HXl.out.new M2.out)).mono ?_
  rintro e w3 ⟨A3, n3, c3, rfl, l3, r3, N3a⟩
  have s3 := N3a.le
  have RZ2 := Lib.hid (RZ2.out.new N3a)
  have N3 := Lib.hid (M2.out.trans N3a); clear N3a
  have L3 := Lib.hid l3; have R3 := Lib.hid r3; have b3 : n3 ≤ 1048576 := by have := L3.out; have := LXl.out; omega
  have i3 : (n3 : Int) ≤ 1048576 := by omega
  have j3 : (0 : Int) ≤ (n3 : Int) := by omega
  clear l3 r3
  go_wp2_with fail
  refine (HI.out _ _ _ _ ((Sts.of_res R3.out L3.out)) b3).mono ?_
  rintro e w4 ⟨rfl, N4a⟩
  have s4 := N4a.le
  have RZ2 := Lib.hid (RZ2.out.new N4a)
  have R3 := Lib.hid (R3.out.new N4a)
  have N4 := Lib.hid (N3.out.trans N4a); clear N4a
  have RZ4 := Lib.hid (Row.oneRect w4 z0 z1 z2 z3 34)
  have RZ2 := Lib.hid (RZ2.out.new ((New.refl w4).alloc (.cells #[.int .i64 z0, .int .i64 z1, .int .i64 z2, .int .i64 z3] 34)))
  have R3 := Lib.hid (R3.out.new ((New.refl w4).alloc (.cells #[.int .i64 z0, .int .i64 z1, .int .i64 z2, .int .i64 z3] 34)))
  have M4 := Lib.hid (N4.out.alloc (.cells #[.int .i64 z0, .int .i64 z1, .int .i64 z2, .int .i64 z3] 34))
  have t4 : w4.heap.size < (w4.alloc (.cells #[.int .i64 z0, .int .i64 z1, .int .i64 z2, .int .i64 z3] 34)).heap.size := RZ4.out.lt
  have a2 := RZ2.out.c 0 (by simp); have e2 := RZ2.out.c 1 (by simp); have p2 := RZ2.out.c 2 (by simp); have q2 := RZ2.out.c 3 (by simp)
  simp only [List.getD_cons_zero, List.getD_cons_succ] at a2 e2 p2 q2
  have a4 := RZ4.out.c 0 (by simp); have e4 := RZ4.out.c 1 (by simp); have p4 := RZ4.out.c 2 (by simp); have q4 := RZ4.out.c 3 (by simp)
  simp only [List.getD_cons_zero, List.getD_cons_succ] at a4 e4 p4 q4
  go_wp2_with fail
  refine (eqRect_same z0 z1 z2 z3 _).mono ?_
  rintro e w5 ⟨rfl, N5a⟩
  have s5 := N5a.le
  have RZ2 := Lib.hid (RZ2.out.new N5a)
  have R3 := Lib.hid (R3.out.new N5a)
  have RZ4 := Lib.hid (RZ4.out.new N5a)
  have N5 := Lib.hid (M4.out.trans N5a); clear N5a
  clear a2 e2 p2 q2
  clear a4 e4 p4 q4
  go_wp2_with fail
  refine (toBoxS_any Al nl cl xl hml _ (HXl.out.new N5.out)).mono ?_
  rintro e w6 ⟨A6, n6, c6, rfl, l6, r6, N6a⟩
  have s6 := N6a.le
  have RZ2 := Lib.hid (RZ2.out.new N6a)
  have R3 := Lib.hid (R3.out.new N6a)
  have RZ4 := Lib.hid (RZ4.out.new N6a)
  have N6 := Lib.hid (N5.out.trans N6a); clear N6a
  have L6 := Lib.hid l6; have R6 := Lib.hid r6; have b6 : n6 ≤ 1048576 := by have := L6.out; have := LXl.out; omega
  have i6 : (n6 : Int) ≤ 1048576 := by omega
  have j6 : (0 : Int) ≤ (n6 : Int) := by omega
  clear l6 r6
  go_wp2_with fail
  refine (eqBoxS_any _ _ _ _ _ _ _ b3 b6 _ (Sts.of_res R3.out L3.out) (Sts.of_res R6.out L6.out)).mono ?_
  rintro e w7 ⟨rfl, N7a⟩
  have s7 := N7a.le
  have RZ2 := Lib.hid (RZ2.out.new N7a)
  have R3 := Lib.hid (R3.out.new N7a)
  have RZ4 := Lib.hid (RZ4.out.new N7a)
  have R6 := Lib.hid (R6.out.new N7a)
  have N7 := Lib.hid (N6.out.trans N7a); clear N7a
  go_wp2
  go_ret
  exact ⟨rfl, N7.out⟩
end Go.Proofs.Ytbpocogohfmoaaa
