/- The law FnAddBoxCount, walked: each box around the one that takes the new box counts one more. Condition: the code can be read. -/
import Derived.Test.YtnihklilappimaaDrawEd
import Derived.Test.YtnihklilappimaaEdA
import Derived.Test.YtnihklilappimaaBoxQ
import Derived.Test.YtnihklilappimaaTreeE
import Derived.Test.YtnihklilappimaaPathP
import Derived.Deep.RegionHeld3
namespace Go.Proofs.Ytnihklilappimaa
open Go.RowKit

set_option maxHeartbeats 4000000 in
theorem lawAddBoxCount (A : Option Addr) (n c : Nat) (hn : n ≤ maxLen) (hnc : n ≤ c) (w : World) (hb : Bytes w A n) :
    Calls Try.prog 7 #[.slice A n c] w fun e w' => e = .returned (.bool true) ∧ New w w' := by
  have HB := Lib.hid hb; have HM := Lib.hid hn
  clear hb
  unfold maxLen at hn
  by_cases hbig : 1048576 < n
  · go_enter Try.func7, Try.ntmps7
    go_wp2
    go_ret
    exact ⟨rfl, by (repeat (first | exact New.refl _ | assumption | refine New.alloc ?_ _ | refine New.drew ?_ | refine New.drewN ?_ _ | refine New.setCell ?_ (by first | omega | (simp; omega) | (simp; done)) _ | refine New.trans ?_ (by assumption)))⟩
  have hm : (n : Int) ≤ 1048576 := by omega
  have hm0 : (0 : Int) ≤ (n : Int) := by omega
  go_enter Try.func7, Try.ntmps7
  go_wp2_with fail
  refine (DrawAddBox_any A n c HM.out hnc _ HB.out).mono ?_
  rintro e w1 ⟨B1, m1, d1, zs, x, y0, y1, y2, y3, y4, y5, y6, y7, y8, rfl, I1, l1, kd, xb, N1a⟩
  have s1 := N1a.le
  have N1 := Lib.hid ((New.refl w).trans N1a); clear N1a
  replace I1 := I1 _ (Chg.refl _ _ _)
  have HL := Lib.hid I1.len
  have RB := Lib.hid (Row.oneBox w1 y0 y1 y2 y3 y4 y5 y6 y7 y8 36)
  have sb := RB.out.lt
  replace I1 := Lib.hid (I1.new ((New.refl _).alloc (.cells #[.int .i64 y0, .int .i64 y1, .int .i64 y2, .int .i64 y3, .int .i64 y4, .int .i64 y5, .int .i64 y6, .int .i64 y7, .int .i64 y8] 36)))
  cases hso : addOk m1 zs x [y1, y2, y3, y4, y5, y6, y7, y8]
  · have OK := Lib.hid hso
    have LP : Hid ((addA m1 zs x [y1, y2, y3, y4, y5, y6, y7, y8]).length = 0 * 9) := Lib.hid (by unfold addA; rw [hso]; rfl)
    clear hso
    have bx0 := RB.out.c 0 (by simp)
    have bx1 := RB.out.c 1 (by simp)
    have bx2 := RB.out.c 2 (by simp)
    have bx3 := RB.out.c 3 (by simp)
    have bx4 := RB.out.c 4 (by simp)
    have bx5 := RB.out.c 5 (by simp)
    have bx6 := RB.out.c 6 (by simp)
    have bx7 := RB.out.c 7 (by simp)
    have bx8 := RB.out.c 8 (by simp)
    simp only [List.getD_cons_zero, List.getD_cons_succ] at bx0 bx1 bx2 bx3 bx4 bx5 bx6 bx7 bx8
    go_wp2_with fail
    refine (AddBox_ansT B1 m1 d1 zs x y0 y1 y2 y3 y4 y5 y6 y7 y8 (by omega) _ I1.out).mono ?_
    rw [OK.out]
    rintro e w2 ⟨A2, n2, c2, rfl, l2, r2, N2a⟩
    have s2 := N2a.le
    have I1 := Lib.hid (I1.out.new N2a)
    have RB := Lib.hid (RB.out.new N2a)
    have N2 := Lib.hid ((N1.out.alloc (.cells #[.int .i64 y0, .int .i64 y1, .int .i64 y2, .int .i64 y3, .int .i64 y4, .int .i64 y5, .int .i64 y6, .int .i64 y7, .int .i64 y8] 36)).trans N2a); clear N2a
    obtain rfl : 0 = n2 := by have := LP.out; omega
    have R2 := Lib.hid r2; clear l2 r2
    clear bx0 bx1 bx2 bx3 bx4 bx5 bx6 bx7 bx8
    have bx0 := RB.out.c 0 (by simp)
    have bx1 := RB.out.c 1 (by simp)
    have bx2 := RB.out.c 2 (by simp)
    have bx3 := RB.out.c 3 (by simp)
    have bx4 := RB.out.c 4 (by simp)
    have bx5 := RB.out.c 5 (by simp)
    have bx6 := RB.out.c 6 (by simp)
    have bx7 := RB.out.c 7 (by simp)
    have bx8 := RB.out.c 8 (by simp)
    simp only [List.getD_cons_zero, List.getD_cons_succ] at bx0 bx1 bx2 bx3 bx4 bx5 bx6 bx7 bx8
    go_wp2_with fail
    refine (SAddBox_ansT B1 m1 d1 zs x y0 y1 y2 y3 y4 y5 y6 y7 y8 (by omega) kd _ I1.out).mono ?_
    rw [OK.out]
    rintro e w3 ⟨A3, n3, c3, rfl, l3, r3, N3a⟩
    have s3 := N3a.le
    have I1 := Lib.hid (I1.out.new N3a)
    have RB := Lib.hid (RB.out.new N3a)
    have R2 := Lib.hid (R2.out.new N3a)
    have N3 := Lib.hid (N2.out.trans N3a); clear N3a
    obtain rfl : 0 = n3 := by have := LP.out; omega
    have R3 := Lib.hid r3; clear l3 r3
    clear bx0 bx1 bx2 bx3 bx4 bx5 bx6 bx7 bx8
    go_wp2_with fail
    refine (equalBoxes_same _ _ 0 _ _ _ (by omega) _ (Sts.of_res R2.out LP.out) (Sts.of_res R3.out LP.out)).mono ?_
    rintro e w4 ⟨rfl, N4a⟩
    have s4 := N4a.le
    have I1 := Lib.hid (I1.out.new N4a)
    have RB := Lib.hid (RB.out.new N4a)
    have R2 := Lib.hid (R2.out.new N4a)
    have R3 := Lib.hid (R3.out.new N4a)
    have N4 := Lib.hid (N3.out.trans N4a); clear N4a
    go_wp2_with fail
    refine (equalBoxes_same _ _ 0 _ _ _ (by omega) _ (Sts.of_res R2.out LP.out) (Sts.of_res R3.out LP.out)).mono ?_
    rintro e w5 ⟨rfl, N5a⟩
    have s5 := N5a.le
    have I1 := Lib.hid (I1.out.new N5a)
    have RB := Lib.hid (RB.out.new N5a)
    have R2 := Lib.hid (R2.out.new N5a)
    have R3 := Lib.hid (R3.out.new N5a)
    have N5 := Lib.hid (N4.out.trans N5a); clear N5a
    go_wp2
    go_ret
    exact ⟨by first | rfl | simp, N5.out⟩
  · have OK := Lib.hid hso
    have hn2 := hso
    unfold addOk at hn2
    rw [Bool.and_eq_true] at hn2
    obtain ⟨hv, a, rfl, ha⟩ := nodeOk_iff.1 hn2.1
    have m16 := (vtB_iff.1 hn2.2).1.2
    have vt2 := hn2.2
    rw [Int.toNat_natCast] at vt2
    have hA := added (bs := [y1, y2, y3, y4, y5, y6, y7, y8]) HL.out ha rfl
    have hAL : addA m1 zs (a : Int) [y1, y2, y3, y4, y5, y6, y7, y8] = addL m1 zs a [y1, y2, y3, y4, y5, y6, y7, y8] := by unfold addA; rw [if_pos hso, Int.toNat_natCast]
    obtain ⟨M, hM⟩ : ∃ M, m1 + 1 = M := ⟨_, rfl⟩
    have LP : Hid ((addA m1 zs (a : Int) [y1, y2, y3, y4, y5, y6, y7, y8]).length = M * 9) := Lib.hid (by rw [← hM]; exact addA_mul HL.out _ _ rfl hso)
    have M16 : M ≤ 16 := by omega
    have a0 : (0 : Int) ≤ (a : Int) := by omega
    have a1 : (a : Int) < (m1 : Int) := by omega
    have MI : (M : Int) = (m1 : Int) + 1 := by omega
    have HMI := Lib.hid MI
    clear MI xb
    have ec := fun u (hu : anc zs u a = true) => (show cntA M (addL m1 zs a [y1, y2, y3, y4, y5, y6, y7, y8]) (u : Int) = ((en zs m1 u : Int) - (u : Int)) + 1 by
      have h1 := anc_le hu
      rw [← hM, cntA_at vt2 (by omega), hA.en_up (link_vt hv) rfl hu]; omega)
    rw [← hAL] at ec
    have EO := Lib.hid ec
    have ET := Lib.hid (fun u (hu : u < m1) => cntA_at hv hu)
    have EB := Lib.hid (fun u (hu : u < m1) => en_bd (zs := zs) hu)
    have LN0 := pathA_size hv ha
    have d5 := dep_le5 hv ha
    obtain ⟨np, hnp⟩ : ∃ np, dep zs a + 1 = np := ⟨_, rfl⟩
    rw [hnp] at LN0
    have LN := Lib.hid LN0
    have np1 : (1 : Int) ≤ (np : Int) := by omega
    have np6 : (np : Int) ≤ 6 := by omega
    have PE := Lib.hid (pathA_at hv ha)
    have PB := Lib.hid (fun d (hd : d < np) => (show anc zs ((pathL zs a).getD d 0) a = true ∧ (pathL zs a).getD d 0 < m1 by
      have q1 := (path_at (zs := zs) (i := a) (d := d) (by rw [path_len]; omega)).1
      exact ⟨q1, by have := anc_le q1; omega⟩))
    clear hso hn2 vt2 hA hAL hv ec LN0 hnp d5 hM
    have bx0 := RB.out.c 0 (by simp)
    have bx1 := RB.out.c 1 (by simp)
    have bx2 := RB.out.c 2 (by simp)
    have bx3 := RB.out.c 3 (by simp)
    have bx4 := RB.out.c 4 (by simp)
    have bx5 := RB.out.c 5 (by simp)
    have bx6 := RB.out.c 6 (by simp)
    have bx7 := RB.out.c 7 (by simp)
    have bx8 := RB.out.c 8 (by simp)
    simp only [List.getD_cons_zero, List.getD_cons_succ] at bx0 bx1 bx2 bx3 bx4 bx5 bx6 bx7 bx8
    go_wp2_with fail
    refine (AddBox_ansT B1 m1 d1 zs (a : Int) y0 y1 y2 y3 y4 y5 y6 y7 y8 (by omega) _ I1.out).mono ?_
    rw [OK.out]
    rintro e w2 ⟨A2, n2, c2, rfl, l2, r2, N2a⟩
    have s2 := N2a.le
    have I1 := Lib.hid (I1.out.new N2a)
    have RB := Lib.hid (RB.out.new N2a)
    have N2 := Lib.hid ((N1.out.alloc (.cells #[.int .i64 y0, .int .i64 y1, .int .i64 y2, .int .i64 y3, .int .i64 y4, .int .i64 y5, .int .i64 y6, .int .i64 y7, .int .i64 y8] 36)).trans N2a); clear N2a
    obtain rfl : M = n2 := by have := LP.out; omega
    have R2 := Lib.hid r2; clear l2 r2
    clear bx0 bx1 bx2 bx3 bx4 bx5 bx6 bx7 bx8
    have bx0 := RB.out.c 0 (by simp)
    have bx1 := RB.out.c 1 (by simp)
    have bx2 := RB.out.c 2 (by simp)
    have bx3 := RB.out.c 3 (by simp)
    have bx4 := RB.out.c 4 (by simp)
    have bx5 := RB.out.c 5 (by simp)
    have bx6 := RB.out.c 6 (by simp)
    have bx7 := RB.out.c 7 (by simp)
    have bx8 := RB.out.c 8 (by simp)
    simp only [List.getD_cons_zero, List.getD_cons_succ] at bx0 bx1 bx2 bx3 bx4 bx5 bx6 bx7 bx8
    go_wp2_with fail
    refine (SAddBox_ansT B1 m1 d1 zs (a : Int) y0 y1 y2 y3 y4 y5 y6 y7 y8 (by omega) kd _ I1.out).mono ?_
    rw [OK.out]
    rintro e w3 ⟨A3, n3, c3, rfl, l3, r3, N3a⟩
    have s3 := N3a.le
    have I1 := Lib.hid (I1.out.new N3a)
    have RB := Lib.hid (RB.out.new N3a)
    have R2 := Lib.hid (R2.out.new N3a)
    have N3 := Lib.hid (N2.out.trans N3a); clear N3a
    obtain rfl : M = n3 := by have := LP.out; omega
    have R3 := Lib.hid r3; clear l3 r3
    clear bx0 bx1 bx2 bx3 bx4 bx5 bx6 bx7 bx8
    go_wp2_with fail
    refine (equalBoxes_same _ _ M _ _ _ (by omega) _ (Sts.of_res R2.out LP.out) (Sts.of_res R3.out LP.out)).mono ?_
    rintro e w4 ⟨rfl, N4a⟩
    have s4 := N4a.le
    have I1 := Lib.hid (I1.out.new N4a)
    have RB := Lib.hid (RB.out.new N4a)
    have R2 := Lib.hid (R2.out.new N4a)
    have R3 := Lib.hid (R3.out.new N4a)
    have N4 := Lib.hid (N3.out.trans N4a); clear N4a
    go_wp2_with fail
    refine (PathTo_ans B1 m1 d1 zs (a : Int) (by omega) _ I1.out).mono ?_
    rintro e w5 ⟨A5, n5, c5, rfl, l5, r5, N5a⟩
    have s5 := N5a.le
    have I1 := Lib.hid (I1.out.new N5a)
    have RB := Lib.hid (RB.out.new N5a)
    have R2 := Lib.hid (R2.out.new N5a)
    have R3 := Lib.hid (R3.out.new N5a)
    have N5 := Lib.hid (N4.out.trans N5a); clear N5a
    obtain rfl : np = n5 := by have := LN.out; omega
    have R5 := Lib.hid r5; clear l5 r5
    have ND := Lib.hid (N5.out)
    have RO := Lib.hid (Sts.of_res R2.out LP.out)
    generalize addA m1 zs (a : Int) [y1, y2, y3, y4, y5, y6, y7, y8] = T at *
    clear LP
    go_wp2
    go_loopw [11] (fun i wr => ∃ j : Nat, j ≤ np ∧ i = .int .i64 j ∧ Hid (New w5 wr)) (fun i _ => np - (intOf i).toNat)
    case atStart => exact ⟨0, Nat.zero_le _, rfl, Lib.hid (New.refl _)⟩
    case round =>
      obtain ⟨j, hj, rfl, HW⟩ := hrel
      have j0 : (0 : Int) ≤ (j : Int) := by omega
      by_cases hlt : j < np
      · have j1 : (j : Int) < (np : Int) := by omega
        obtain ⟨b', off', rfl, hb', hc'⟩ := (R5.out.ints LN.out).at_ (by omega)
        have g1 : wr.drew.cell? ⟨b', off' + j, none⟩ = some (.int .i64 (((pathL zs a).getD j 0 : Nat) : Int)) := by
          have h := (HW.out.cells b' _ hb').trans (hc' j hlt)
          rw [PE.out, getD_map] at h
          exact h
        obtain ⟨p1, p2⟩ := PB.out j hlt
        have eo := EO.out _ p1
        have et := ET.out _ p2
        have eb := EB.out _ p2
        generalize (pathL zs a).getD j 0 = u at *
        obtain ⟨z, hz⟩ : ∃ z, (en zs m1 u : Int) - (u : Int) = z := ⟨_, rfl⟩
        rw [hz] at eo et
        have EOU := Lib.hid eo; have ETU := Lib.hid et
        have z0 : 0 ≤ z := by omega
        have z1 : z ≤ 16 := by omega
        have zw : IntKind.i64.wrap (z + 1) = z + 1 := IntWalk.i64_in _ (by omega)
        have HD := Lib.hid HW.out.drew
        have IO1 := Lib.hid (RO.out.new HD.out); have IT1 := Lib.hid (I1.out.new HD.out)
        have hbw : b' < wr.drew.heap.size := Nat.lt_of_lt_of_le hb' HW.out.drew.le
        have G1 := Lib.hid g1
        have KF := Lib.hid (fun (W : World) (h : New wr.drew W) => (h.cells _ (off' + j) hbw).trans G1.out)
        clear hc' hb' eo et eb hz p1
        go_wp2
        go_region_held3 (fun w' => w'.cell? ⟨b', off' + j, none⟩ = some (.int .i64 (u : Int)))
          (first | exact g1 | exact K2 | exact K3 | assumption)
          (first
            | (go_at_call 31; ((with_reducible refine (CountIn_any _ M _ T (u : Int) (by omega) _ IO1.out).mono ?_); rw [EOU.out]; rintro e wa ⟨rfl, Na⟩; (have K2 := KF.out wa Na); (have IT2 := Lib.hid (IT1.out.new Na)); (have NA := Lib.hid Na); clear Na))
            | (go_at_call 31; ((with_reducible refine (CountIn_any B1 m1 d1 zs (u : Int) (by omega) _ IT1.out).mono ?_); rw [ETU.out]; rintro e wa ⟨rfl, Na⟩; (have K2 := KF.out wa Na); (have IO2 := Lib.hid (IO1.out.new Na)); (have NA := Lib.hid Na); clear Na))
            | (go_at_call 31; ((with_reducible refine (CountIn_any B1 m1 d1 zs (u : Int) (by omega) _ IT2.out).mono ?_); rw [ETU.out]; rintro e wz ⟨rfl, Nz⟩; (have K3 := KF.out wz (NA.out.trans Nz)); (replace Nz := Lib.hid (HD.out.trans (NA.out.trans Nz)))))
            | (go_at_call 31; ((with_reducible refine (CountIn_any _ M _ T (u : Int) (by omega) _ IO2.out).mono ?_); rw [EOU.out]; rintro e wz ⟨rfl, Nz⟩; (have K3 := KF.out wz (NA.out.trans Nz)); (replace Nz := Lib.hid (HD.out.trans (NA.out.trans Nz))))))
        all_goals
          go_wp2
          go_roundw
          case rel => exact ⟨j + 1, by omega, by go_num, Nz⟩
          case measure => simp [intOf]; omega
      · obtain rfl : np = j := by omega
        have MI := HMI.out
        have dM : ((M : Int) == (m1 : Int) + 1) = true := by simp; omega
        have np2 : (0 : Int) < (np : Int) := by omega
        have np3 : decide (0 < np) = true := decide_eq_true (by omega)
        clear MI
        go_wp2
        go_ret
        exact ⟨by first | rfl | simp, ND.out.trans HW.out⟩
end Go.Proofs.Ytnihklilappimaa
