/- The law FnExactPushTask, walked over what both functions do: whatever the tasks and the numbers, both answers are the same, the argument is left alone, and the answer shares no memory. Conditions: the arguments can be read; both functions answer alike. -/
import Derived.Test.YtecnhjofgkhlnaaTaskH
import Derived.Test.YtecnhjofgkhlnaaAnsT
namespace Go.Proofs.Ytecnhjofgkhlnaa
open Go.RowKit

set_option maxHeartbeats 4000000 in
theorem lawExactPushTask (Al : Option Addr) (nl cl : Nat) (xl : List Int) (a : Int) (b : Int) (ok : Bool) (zs : List Int) (hz : zs.length ≤ 1048576)
    (hI : ∀ (Bl : Option Addr) (ml dl : Nat) (W : World), Sts 3 W Bl ml xl → ml ≤ 1048576 → ml ≤ dl → Calls Try.prog 25 #[.slice Bl ml dl, .int .i64 a, .int .i64 b] W (AnsT 3 W ok zs))
    (hS : ∀ (Bl : Option Addr) (ml dl : Nat) (W : World), Sts 3 W Bl ml xl → ml ≤ 1048576 → ml ≤ dl → Calls Try.prog 24 #[.slice Bl ml dl, .int .i64 a, .int .i64 b] W (AnsT 3 W ok zs))
    (w : World) (hxl : Sts 3 w Al nl xl) (hnl : nl ≤ maxLen) :
    Calls Try.prog 5 #[.slice Al nl cl, .int .i64 a, .int .i64 b] w fun e w' => e = .returned (.bool true) ∧ New w w' := by
  have HXl := Lib.hid hxl; have LXl := Lib.hid hxl.len; have HMl := Lib.hid hnl; unfold maxLen at hnl
  have HI := Lib.hid hI; have HS := Lib.hid hS
  clear hxl hI hS
  by_cases hbl : 1048576 < nl
  · go_enter Try.func5, Try.ntmps5
    go_wp2_with fail
    refine (szTask_no _ _ _ 1048576 HMl.out (by omega) _).mono ?_
    rintro e w' ⟨rfl, rfl⟩
    go_wp2
    go_ret
    exact ⟨rfl, by (repeat (first | exact New.refl _ | assumption | refine New.alloc ?_ _ | refine New.drew ?_ | refine New.drewN ?_ _ | refine New.setCell ?_ (by first | omega | (simp; omega) | (simp; done)) _ | refine New.trans ?_ (by assumption)))⟩
  have hml : nl ≤ 1048576 := by omega
  have hil : (nl : Int) ≤ 1048576 := by omega
  have hjl : (0 : Int) ≤ (nl : Int) := by omega
  go_enter Try.func5, Try.ntmps5
  go_wp2_with fail
  refine (szTask_ok _ _ _ 1048576 (by omega) (by omega) _).mono ?_
  rintro e w' ⟨rfl, rfl⟩
  go_wp2_with fail
  refine (toTaskS_anyC Al nl cl xl hml _ HXl.out).mono ?_
  rintro e w1 ⟨A1, n1, c1, rfl, l1, q1, r1, N1a⟩
  have s1 := N1a.le
  have N1 := Lib.hid ((New.refl w).trans N1a); clear N1a
  have q1 := Lib.hid q1
  have L1 := Lib.hid l1; have R1 := Lib.hid r1; have b1 : n1 ≤ 1048576 := by { have := L1.out; have := LXl.out; omega }
  have i1 : (n1 : Int) ≤ 1048576 := by omega
  have j1 : (0 : Int) ≤ (n1 : Int) := by omega
  clear l1 r1
  go_wp2_with fail
  refine (HS.out _ _ _ _ ((Sts.of_res R1.out L1.out)) b1 q1.out).mono ?_
  rintro e w2 ⟨A2, n2, c2, rfl, l2, r2, N2a⟩
  have s2 := N2a.le
  have R1 := Lib.hid (R1.out.new N2a)
  have N2 := Lib.hid (N1.out.trans N2a); clear N2a
  have L2 := Lib.hid l2; have R2 := Lib.hid r2; have b2 : n2 ≤ 1048576 := by { have := L2.out; omega }
  have i2 : (n2 : Int) ≤ 1048576 := by omega
  have j2 : (0 : Int) ≤ (n2 : Int) := by omega
  clear l2 r2
  go_wp2_with fail
  refine (toTaskS_anyC Al nl cl xl hml _ (HXl.out.new N2.out)).mono ?_
  rintro e w3 ⟨A3, n3, c3, rfl, l3, q3, r3, N3a⟩
  have s3 := N3a.le
  have R2 := Lib.hid (R2.out.new N3a)
  have N3 := Lib.hid (N2.out.trans N3a); clear N3a
  have q3 := Lib.hid q3
  have L3 := Lib.hid l3; have R3 := Lib.hid r3; have b3 : n3 ≤ 1048576 := by { have := L3.out; have := LXl.out; omega }
  have i3 : (n3 : Int) ≤ 1048576 := by omega
  have j3 : (0 : Int) ≤ (n3 : Int) := by omega
  clear l3 r3
  go_wp2_with fail
  refine (HI.out _ _ _ _ ((Sts.of_res R3.out L3.out)) b3 q3.out).mono ?_
  rintro e w4 ⟨A4, n4, c4, rfl, l4, r4, N4a⟩
  have s4 := N4a.le
  have R2 := Lib.hid (R2.out.new N4a)
  have R3 := Lib.hid (R3.out.new N4a)
  have N4 := Lib.hid (N3.out.trans N4a); clear N4a
  have L4 := Lib.hid l4; have R4 := Lib.hid r4; have b4 : n4 ≤ 1048576 := by { have := L4.out; omega }
  have i4 : (n4 : Int) ≤ 1048576 := by omega
  have j4 : (0 : Int) ≤ (n4 : Int) := by omega
  clear l4 r4
  go_wp2_with fail
  refine (eqTaskS_any _ _ _ _ _ _ _ b4 b2 _ (Sts.of_res R4.out L4.out) (Sts.of_res R2.out L2.out)).mono ?_
  rintro e w5 ⟨rfl, N5a⟩
  have s5 := N5a.le
  have R2 := Lib.hid (R2.out.new N5a)
  have R3 := Lib.hid (R3.out.new N5a)
  have R4 := Lib.hid (R4.out.new N5a)
  have N5 := Lib.hid (N4.out.trans N5a); clear N5a
  go_wp2_with fail
  refine (toTaskS_anyC Al nl cl xl hml _ (HXl.out.new N5.out)).mono ?_
  rintro e w6 ⟨A6, n6, c6, rfl, l6, q6, r6, N6a⟩
  have s6 := N6a.le
  have R2 := Lib.hid (R2.out.new N6a)
  have R3 := Lib.hid (R3.out.new N6a)
  have R4 := Lib.hid (R4.out.new N6a)
  have N6 := Lib.hid (N5.out.trans N6a); clear N6a
  have q6 := Lib.hid q6
  have L6 := Lib.hid l6; have R6 := Lib.hid r6; have b6 : n6 ≤ 1048576 := by { have := L6.out; have := LXl.out; omega }
  have i6 : (n6 : Int) ≤ 1048576 := by omega
  have j6 : (0 : Int) ≤ (n6 : Int) := by omega
  clear l6 r6
  go_wp2_with fail
  refine (eqTaskS_any _ _ _ _ _ _ _ b3 b6 _ (Sts.of_res R3.out L3.out) (Sts.of_res R6.out L6.out)).mono ?_
  rintro e w7 ⟨rfl, N7a⟩
  have s7 := N7a.le
  have R2 := Lib.hid (R2.out.new N7a)
  have R3 := Lib.hid (R3.out.new N7a)
  have R4 := Lib.hid (R4.out.new N7a)
  have R6 := Lib.hid (R6.out.new N7a)
  have N7 := Lib.hid (N6.out.trans N7a); clear N7a
  go_wp2_with fail
  refine (markTaskS_any _ _ _ _ _ _ _ (by omega) (by omega) b3 L3.out _ R3.out).mono ?_
  rintro e w8 ⟨rfl, _, C8⟩
  have s8 := C8.size
  have R2 := Lib.hid (R2.out.chg C8 (by omega))
  have R4 := Lib.hid (R4.out.chg C8 (by omega))
  have N8 := Lib.hid (C8.new N7.out (by omega)); clear C8
  go_wp2_with fail
  refine (eqTaskS_any _ _ _ _ _ _ _ b4 b2 _ (Sts.of_res R4.out L4.out) (Sts.of_res R2.out L2.out)).mono ?_
  rintro e w9 ⟨rfl, N9a⟩
  have s9 := N9a.le
  have R2 := Lib.hid (R2.out.new N9a)
  have R4 := Lib.hid (R4.out.new N9a)
  have N9 := Lib.hid (N8.out.trans N9a); clear N9a
  go_wp2_with fail
  refine (markTaskS_any _ _ _ _ _ _ _ (by omega) (by omega) b4 L4.out _ R4.out).mono ?_
  rintro e w10 ⟨rfl, M10, C10⟩
  have s10 := C10.size
  have R2 := Lib.hid (R2.out.chg C10 (by omega))
  have N10 := Lib.hid (C10.new N9.out (by omega)); clear C10
  have M10 := Lib.hid M10
  go_wp2_with fail
  refine (heldTaskS_any _ _ _ 1 (by omega) (by omega) b4 _ (Sts.of_res M10.out (marks_len _ _))).mono ?_
  rintro e w' ⟨rfl, rfl⟩
  go_wp2_with fail
  refine (toTaskS_anyC Al nl cl xl hml _ (HXl.out.new N10.out)).mono ?_
  rintro e w11 ⟨A11, n11, c11, rfl, l11, q11, r11, N11a⟩
  have s11 := N11a.le
  have R2 := Lib.hid (R2.out.new N11a)
  have M10 := Lib.hid (M10.out.new N11a)
  have N11 := Lib.hid (N10.out.trans N11a); clear N11a
  have q11 := Lib.hid q11
  have L11 := Lib.hid l11; have R11 := Lib.hid r11; have b11 : n11 ≤ 1048576 := by { have := L11.out; have := LXl.out; omega }
  have i11 : (n11 : Int) ≤ 1048576 := by omega
  have j11 : (0 : Int) ≤ (n11 : Int) := by omega
  clear l11 r11
  go_wp2_with fail
  refine (HI.out _ _ _ _ ((Sts.of_res R11.out L11.out)) b11 q11.out).mono ?_
  rintro e w12 ⟨A12, n12, c12, rfl, l12, r12, N12a⟩
  have s12 := N12a.le
  have R2 := Lib.hid (R2.out.new N12a)
  have M10 := Lib.hid (M10.out.new N12a)
  have R11 := Lib.hid (R11.out.new N12a)
  have N12 := Lib.hid (N11.out.trans N12a); clear N12a
  have L12 := Lib.hid l12; have R12 := Lib.hid r12; have b12 : n12 ≤ 1048576 := by { have := L12.out; omega }
  have i12 : (n12 : Int) ≤ 1048576 := by omega
  have j12 : (0 : Int) ≤ (n12 : Int) := by omega
  clear l12 r12
  go_wp2_with fail
  refine (eqTaskS_any _ _ _ _ _ _ _ b12 b2 _ (Sts.of_res R12.out L12.out) (Sts.of_res R2.out L2.out)).mono ?_
  rintro e w13 ⟨rfl, N13a⟩
  have s13 := N13a.le
  have R2 := Lib.hid (R2.out.new N13a)
  have M10 := Lib.hid (M10.out.new N13a)
  have R11 := Lib.hid (R11.out.new N13a)
  have R12 := Lib.hid (R12.out.new N13a)
  have N13 := Lib.hid (N12.out.trans N13a); clear N13a
  go_wp2_with fail
  refine (heldTaskS_any _ _ _ 1 (by omega) (by omega) b4 _ (Sts.of_res M10.out (marks_len _ _))).mono ?_
  rintro e w' ⟨rfl, rfl⟩
  go_wp2
  go_ret
  exact ⟨rfl, N13.out⟩
end Go.Proofs.Ytecnhjofgkhlnaa
