/- The law FnExactSeenBoxes, walked over what both functions do: whatever the tree, the numbers and the rectangle, both answers are the same, the arguments are left alone, and the answer shares no memory. Conditions: the arguments can be read; both functions answer alike. -/
import Derived.Test.YtokcbfnmnccacaaZX
import Derived.Test.YtokcbfnmnccacaaBoxH
import Derived.Test.YtokcbfnmnccacaaZS
import Derived.Test.YtokcbfnmnccacaaRectH
import Derived.Deep.RegionHeld3
namespace Go.Proofs.Ytokcbfnmnccacaa
open Go.RowKit

set_option maxRecDepth 100000 in
set_option maxHeartbeats 4000000 in
theorem lawExactSeenBoxes (Al : Option Addr) (nl cl : Nat) (xl : List Int) (a b v0 v1 v2 v3 : Int) (zs : List Int) (hz : zs.length ≤ 1048576)
    (hI : ∀ (Bl : Option Addr) (ml dl : Nat) (W : World), Sts 9 W Bl ml xl → ml ≤ 1048576 → Calls Try.prog 20 #[.slice Bl ml dl, .int .i64 a, .int .i64 b, .agg #[.int .i64 v0, .int .i64 v1, .int .i64 v2, .int .i64 v3]] W (Ans W zs))
    (hS : ∀ (Bl : Option Addr) (ml dl : Nat) (W : World), Sts 9 W Bl ml xl → ml ≤ 1048576 → Calls Try.prog 18 #[.slice Bl ml dl, .int .i64 a, .int .i64 b, .agg #[.int .i64 v0, .int .i64 v1, .int .i64 v2, .int .i64 v3]] W (Ans W zs))
    (w : World) (hxl : Sts 9 w Al nl xl) (hnl : nl ≤ maxLen) :
    Calls Try.prog 4 #[.slice Al nl cl, .int .i64 a, .int .i64 b, .agg #[.int .i64 v0, .int .i64 v1, .int .i64 v2, .int .i64 v3]] w fun e w' => e = .returned (.bool true) ∧ New w w' := by
  have HXl := Lib.hid hxl; have LXl := Lib.hid hxl.len; have HMl := Lib.hid hnl; unfold maxLen at hnl
  have HI := Lib.hid hI; have HS := Lib.hid hS
  clear hxl hI hS
  by_cases hbl : 1048576 < nl
  · go_enter Try.func4, Try.ntmps4
    go_wp2_with fail
    refine (szBox_no _ _ _ 1048576 HMl.out (by omega) _).mono ?_
    rintro e w' ⟨rfl, rfl⟩
    go_wp2
    go_ret
    exact ⟨rfl, by (repeat (first | exact New.refl _ | assumption | refine New.alloc ?_ _ | refine New.drew ?_ | refine New.drewN ?_ _ | refine New.setCell ?_ (by first | omega | (simp; omega) | (simp; done)) _ | refine New.trans ?_ (by assumption)))⟩
  have hml : nl ≤ 1048576 := by omega
  have hil : (nl : Int) ≤ 1048576 := by omega
  have hjl : (0 : Int) ≤ (nl : Int) := by omega
  have RB := Lib.hid (Row.oneRect1 w v0 v1 v2 v3 34)
  have N0 := Lib.hid ((New.refl w).alloc (.cells #[.int .i64 v0, .int .i64 v1, .int .i64 v2, .int .i64 v3] 34))
  have s0 : w.heap.size < (w.alloc (.cells #[.int .i64 v0, .int .i64 v1, .int .i64 v2, .int .i64 v3] 34)).heap.size := RB.out.lt
  go_enter Try.func4, Try.ntmps4
  go_wp2_with fail
  refine (szBox_ok _ _ _ 1048576 (by omega) (by omega) _).mono ?_
  rintro e w' ⟨rfl, rfl⟩
  generalize w.alloc (.cells #[.int .i64 v0, .int .i64 v1, .int .i64 v2, .int .i64 v3] 34) = w0 at *
  have RB := Lib.hid (RB.out.new (New.refl w0).drew)
  have sd0 : w0.heap.size ≤ w0.drew.heap.size := Nat.le_refl _
  have K0 := Row.allRect RB.out
  go_wp2
  go_region_held3 (fun w' => w'.cell? ⟨w.heap.size, 0, none⟩ = some (.int .i64 v0) ∧ w'.cell? ⟨w.heap.size, 1, none⟩ = some (.int .i64 v1) ∧ w'.cell? ⟨w.heap.size, 2, none⟩ = some (.int .i64 v2) ∧ w'.cell? ⟨w.heap.size, 3, none⟩ = some (.int .i64 v3))
    (first | exact K0 | exact K1 | exact K2 | exact K3 | assumption)
    (first
      | (go_at_call 11; refine (toBoxS_any Al nl cl xl hml _ (HXl.out.new N0.out.drew)).mono ?_; rintro e w1 ⟨A1, n1, c1, rfl, l1, r1, N1a⟩; (have s1 := N1a.le); (have RB := Lib.hid (RB.out.new N1a)); (have N1 := Lib.hid (N0.out.drew.trans N1a)); clear N1a; (have L1 := Lib.hid l1); (have R1 := Lib.hid r1); (have b1 : n1 ≤ 1048576 := by { have := L1.out; have := LXl.out; omega }); (have i1 : (n1 : Int) ≤ 1048576 := by omega); (have j1 : (0 : Int) ≤ (n1 : Int) := by omega); clear l1 r1; (have K1 := Row.allRect RB.out))
      | (go_at_call 19; refine (toRect_any _ _ _ _ _).mono ?_; rintro e w2 ⟨rfl, N2a⟩; (have s2 := N2a.le); (have RB := Lib.hid (RB.out.new N2a)); (have R1 := Lib.hid (R1.out.new N2a)); (have N2 := Lib.hid (N1.out.trans N2a)); clear N2a; (have K2 := Row.allRect RB.out))
      | (go_at_call 18; refine (HS.out _ _ _ _ ((Sts.of_res R1.out L1.out)) b1).mono ?_; rintro e w3 ⟨A3, n3, c3, rfl, l3, r3, N3a⟩; (have s3 := N3a.le); (have RB := Lib.hid (RB.out.new N3a)); (have R1 := Lib.hid (R1.out.new N3a)); (have N3 := Lib.hid (N2.out.trans N3a)); clear N3a; (have L3 := Lib.hid l3); (have R3 := Lib.hid r3); (have b3 : n3 ≤ 1048576 := by { have := L3.out; omega }); (have i3 : (n3 : Int) ≤ 1048576 := by omega); (have j3 : (0 : Int) ≤ (n3 : Int) := by omega); clear l3 r3; (have K3 := Row.allRect RB.out)))
  clear K0 K1 K2 K3
  go_wp2_with fail
  refine (toBoxS_any Al nl cl xl hml _ (HXl.out.new N3.out)).mono ?_
  rintro e w4 ⟨A4, n4, c4, rfl, l4, r4, N4a⟩
  have s4 := N4a.le
  have RB := Lib.hid (RB.out.new N4a)
  have R3 := Lib.hid (R3.out.new N4a)
  have N4 := Lib.hid (N3.out.trans N4a)
  clear N4a
  have L4 := Lib.hid l4
  have R4 := Lib.hid r4
  have b4 : n4 ≤ 1048576 := by { have := L4.out; have := LXl.out; omega }
  have i4 : (n4 : Int) ≤ 1048576 := by omega
  have j4 : (0 : Int) ≤ (n4 : Int) := by omega
  clear l4 r4
  have K0 := Row.allRect RB.out
  obtain ⟨k0_, k1_, k2_, k3_⟩ := K0
  go_wp2_with fail
  refine (toRect_any _ _ _ _ _).mono ?_
  rintro e w5 ⟨rfl, N5a⟩
  have s5 := N5a.le
  have RB := Lib.hid (RB.out.new N5a)
  have R3 := Lib.hid (R3.out.new N5a)
  have R4 := Lib.hid (R4.out.new N5a)
  have N5 := Lib.hid (N4.out.trans N5a)
  clear N5a
  clear k0_ k1_ k2_ k3_
  go_wp2_with fail
  refine (HI.out _ _ _ _ ((Sts.of_res R4.out L4.out)) b4).mono ?_
  rintro e w6 ⟨A6, n6, c6, rfl, l6, r6, N6a⟩
  have s6 := N6a.le
  have RB := Lib.hid (RB.out.new N6a)
  have R3 := Lib.hid (R3.out.new N6a)
  have R4 := Lib.hid (R4.out.new N6a)
  have N6 := Lib.hid (N5.out.trans N6a)
  clear N6a
  have L6 := Lib.hid l6
  have R6 := Lib.hid r6
  have b6 : n6 ≤ 1048576 := by { have := L6.out; omega }
  have i6 : (n6 : Int) ≤ 1048576 := by omega
  have j6 : (0 : Int) ≤ (n6 : Int) := by omega
  clear l6 r6
  go_wp2_with fail
  refine (eqRes_any _ _ _ _ _ _ _ _ b6 b3 _ (R6.out.ints L6.out) (R3.out.ints L3.out) rfl).mono ?_
  rintro e w7 ⟨rfl, N7a⟩
  have s7 := N7a.le
  have RB := Lib.hid (RB.out.new N7a)
  have R3 := Lib.hid (R3.out.new N7a)
  have R4 := Lib.hid (R4.out.new N7a)
  have R6 := Lib.hid (R6.out.new N7a)
  have N7 := Lib.hid (N6.out.trans N7a); clear N7a
  go_wp2_with fail
  refine (toBoxS_any Al nl cl xl hml _ (HXl.out.new N7.out)).mono ?_
  rintro e w8 ⟨A8, n8, c8, rfl, l8, r8, N8a⟩
  have s8 := N8a.le
  have RB := Lib.hid (RB.out.new N8a)
  have R3 := Lib.hid (R3.out.new N8a)
  have R4 := Lib.hid (R4.out.new N8a)
  have R6 := Lib.hid (R6.out.new N8a)
  have N8 := Lib.hid (N7.out.trans N8a)
  clear N8a
  have L8 := Lib.hid l8
  have R8 := Lib.hid r8
  have b8 : n8 ≤ 1048576 := by { have := L8.out; have := LXl.out; omega }
  have i8 : (n8 : Int) ≤ 1048576 := by omega
  have j8 : (0 : Int) ≤ (n8 : Int) := by omega
  clear l8 r8
  go_wp2_with fail
  refine (eqBoxS_any _ _ _ _ _ _ _ b4 b8 _ (Sts.of_res R4.out L4.out) (Sts.of_res R8.out L8.out)).mono ?_
  rintro e w9 ⟨rfl, N9a⟩
  have s9 := N9a.le
  have RB := Lib.hid (RB.out.new N9a)
  have R3 := Lib.hid (R3.out.new N9a)
  have R4 := Lib.hid (R4.out.new N9a)
  have R6 := Lib.hid (R6.out.new N9a)
  have R8 := Lib.hid (R8.out.new N9a)
  have N9 := Lib.hid (N8.out.trans N9a); clear N9a
  go_wp2_with fail
  refine (markBoxS_any _ _ _ _ _ _ _ (by omega) (by omega) b4 L4.out _ R4.out).mono ?_
  rintro e w10 ⟨rfl, _, C10⟩
  have s10 := C10.size
  have RB := Lib.hid (RB.out.chg C10 (by omega))
  have R3 := Lib.hid (R3.out.chg C10 (by omega))
  have R6 := Lib.hid (R6.out.chg C10 (by omega))
  have N10 := Lib.hid (C10.new N9.out (by omega)); clear C10
  go_wp2_with fail
  refine (eqRes_any _ _ _ _ _ _ _ _ b6 b3 _ (R6.out.ints L6.out) (R3.out.ints L3.out) rfl).mono ?_
  rintro e w11 ⟨rfl, N11a⟩
  have s11 := N11a.le
  have RB := Lib.hid (RB.out.new N11a)
  have R3 := Lib.hid (R3.out.new N11a)
  have R6 := Lib.hid (R6.out.new N11a)
  have N11 := Lib.hid (N10.out.trans N11a); clear N11a
  go_wp2_with fail
  refine (markRes_any _ _ _ _ _ _ 1 (by omega) (by omega) b6 L6.out _ R6.out).mono ?_
  rintro e w12 ⟨rfl, M12, C12⟩
  have s12 := C12.size
  have RB := Lib.hid (RB.out.chg C12 (by omega))
  have R3 := Lib.hid (R3.out.chg C12 (by omega))
  have N12 := Lib.hid (C12.new N11.out (by omega)); have M12 := Lib.hid M12; clear C12
  go_wp2_with fail
  refine (heldRes_any _ _ _ _ _ 1 (by omega) (by omega) b6 _ M12.out).mono ?_
  rintro e w' ⟨rfl, rfl⟩
  have RB := Lib.hid (RB.out.new (New.refl w12).drew)
  have R3 := Lib.hid (R3.out.new (New.refl w12).drew)
  have M12 := Lib.hid (M12.out.new (New.refl w12).drew)
  have sd12 : w12.heap.size ≤ w12.drew.heap.size := Nat.le_refl _
  have K0 := Row.allRect RB.out
  go_wp2
  go_region_held3 (fun w' => w'.cell? ⟨w.heap.size, 0, none⟩ = some (.int .i64 v0) ∧ w'.cell? ⟨w.heap.size, 1, none⟩ = some (.int .i64 v1) ∧ w'.cell? ⟨w.heap.size, 2, none⟩ = some (.int .i64 v2) ∧ w'.cell? ⟨w.heap.size, 3, none⟩ = some (.int .i64 v3))
    (first | exact K0 | exact K13 | exact K14 | exact K15 | assumption)
    (first
      | (go_at_call 11; refine (toBoxS_any Al nl cl xl hml _ (HXl.out.new N12.out.drew)).mono ?_; rintro e w13 ⟨A13, n13, c13, rfl, l13, r13, N13a⟩; (have s13 := N13a.le); (have RB := Lib.hid (RB.out.new N13a)); (have R3 := Lib.hid (R3.out.new N13a)); (have M12 := Lib.hid (M12.out.new N13a)); (have N13 := Lib.hid (N12.out.drew.trans N13a)); clear N13a; (have L13 := Lib.hid l13); (have R13 := Lib.hid r13); (have b13 : n13 ≤ 1048576 := by { have := L13.out; have := LXl.out; omega }); (have i13 : (n13 : Int) ≤ 1048576 := by omega); (have j13 : (0 : Int) ≤ (n13 : Int) := by omega); clear l13 r13; (have K13 := Row.allRect RB.out))
      | (go_at_call 19; refine (toRect_any _ _ _ _ _).mono ?_; rintro e w14 ⟨rfl, N14a⟩; (have s14 := N14a.le); (have RB := Lib.hid (RB.out.new N14a)); (have R3 := Lib.hid (R3.out.new N14a)); (have M12 := Lib.hid (M12.out.new N14a)); (have R13 := Lib.hid (R13.out.new N14a)); (have N14 := Lib.hid (N13.out.trans N14a)); clear N14a; (have K14 := Row.allRect RB.out))
      | (go_at_call 20; refine (HI.out _ _ _ _ ((Sts.of_res R13.out L13.out)) b13).mono ?_; rintro e w15 ⟨A15, n15, c15, rfl, l15, r15, N15a⟩; (have s15 := N15a.le); (have RB := Lib.hid (RB.out.new N15a)); (have R3 := Lib.hid (R3.out.new N15a)); (have M12 := Lib.hid (M12.out.new N15a)); (have R13 := Lib.hid (R13.out.new N15a)); (have N15 := Lib.hid (N14.out.trans N15a)); clear N15a; (have L15 := Lib.hid l15); (have R15 := Lib.hid r15); (have b15 : n15 ≤ 1048576 := by { have := L15.out; omega }); (have i15 : (n15 : Int) ≤ 1048576 := by omega); (have j15 : (0 : Int) ≤ (n15 : Int) := by omega); clear l15 r15; (have K15 := Row.allRect RB.out)))
  clear K0 K13 K14 K15
  go_wp2_with fail
  refine (eqRes_any _ _ _ _ _ _ _ _ b15 b3 _ (R15.out.ints L15.out) (R3.out.ints L3.out) rfl).mono ?_
  rintro e w16 ⟨rfl, N16a⟩
  have s16 := N16a.le
  have RB := Lib.hid (RB.out.new N16a)
  have R3 := Lib.hid (R3.out.new N16a)
  have M12 := Lib.hid (M12.out.new N16a)
  have R15 := Lib.hid (R15.out.new N16a)
  have N16 := Lib.hid (N15.out.trans N16a); clear N16a
  go_wp2_with fail
  refine (heldRes_any _ _ _ _ _ 1 (by omega) (by omega) b6 _ M12.out).mono ?_
  rintro e w' ⟨rfl, rfl⟩
  go_wp2
  go_ret
  exact ⟨rfl, N16.out⟩
end Go.Proofs.Ytokcbfnmnccacaa
