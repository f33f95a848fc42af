/- The law FnAddBox, walked: the new box is the last one in its box; removing it brings the tree back. Condition: the code can be read. -/
import Derived.Test.YtnihklilappimaaDrawEd
import Derived.Test.YtnihklilappimaaEdA
import Derived.Test.YtnihklilappimaaBoxQ
import Derived.Test.YtnihklilappimaaTreeE
import Derived.Test.YtnihklilappimaaPathP
import Derived.Test.YtnihklilappimaaRemI
import Derived.Deep.RegionHeld3
namespace Go.Proofs.Ytnihklilappimaa
open Go.RowKit

set_option maxHeartbeats 4000000 in
theorem lawAddBox (A : Option Addr) (n c : Nat) (hn : n ≤ maxLen) (hnc : n ≤ c) (w : World) (hb : Bytes w A n) :
    Calls Try.prog 8 #[.slice A n c] w fun e w' => e = .returned (.bool true) ∧ New w w' := by
  have HB := Lib.hid hb; have HM := Lib.hid hn
  clear hb
  unfold maxLen at hn
  by_cases hbig : 1048576 < n
  · go_enter Try.func8, Try.ntmps8
    go_wp2
    go_ret
    exact ⟨rfl, by (repeat (first | exact New.refl _ | assumption | refine New.alloc ?_ _ | refine New.drew ?_ | refine New.drewN ?_ _ | refine New.setCell ?_ (by first | omega | (simp; omega) | (simp; done)) _ | refine New.trans ?_ (by assumption)))⟩
  have hm : (n : Int) ≤ 1048576 := by omega
  have hm0 : (0 : Int) ≤ (n : Int) := by omega
  go_enter Try.func8, Try.ntmps8
  go_wp2_with fail
  refine (DrawAddBox_any A n c HM.out hnc _ HB.out).mono ?_
  rintro e w1 ⟨B1, m1, d1, zs, x, y0, y1, y2, y3, y4, y5, y6, y7, y8, rfl, I1, l1, kd, xb, N1a⟩
  have s1 := N1a.le
  have N1 := Lib.hid ((New.refl w).trans N1a); clear N1a
  replace I1 := I1 _ (Chg.refl _ _ _)
  have HL := Lib.hid I1.len
  have RB := Lib.hid (Row.oneBox w1 y0 y1 y2 y3 y4 y5 y6 y7 y8 36)
  have sb := RB.out.lt
  replace I1 := Lib.hid (I1.new ((New.refl _).alloc (.cells #[.int .i64 y0, .int .i64 y1, .int .i64 y2, .int .i64 y3, .int .i64 y4, .int .i64 y5, .int .i64 y6, .int .i64 y7, .int .i64 y8] 36)))
  cases hso : addOk m1 zs x [y1, y2, y3, y4, y5, y6, y7, y8]
  · have OK := Lib.hid hso
    have LP : Hid ((addA m1 zs x [y1, y2, y3, y4, y5, y6, y7, y8]).length = 0 * 9) := Lib.hid (by unfold addA; rw [hso]; rfl)
    clear hso
    have bx0 := RB.out.c 0 (by simp)
    have bx1 := RB.out.c 1 (by simp)
    have bx2 := RB.out.c 2 (by simp)
    have bx3 := RB.out.c 3 (by simp)
    have bx4 := RB.out.c 4 (by simp)
    have bx5 := RB.out.c 5 (by simp)
    have bx6 := RB.out.c 6 (by simp)
    have bx7 := RB.out.c 7 (by simp)
    have bx8 := RB.out.c 8 (by simp)
    simp only [List.getD_cons_zero, List.getD_cons_succ] at bx0 bx1 bx2 bx3 bx4 bx5 bx6 bx7 bx8
    go_wp2_with fail
    refine (AddBox_ansT B1 m1 d1 zs x y0 y1 y2 y3 y4 y5 y6 y7 y8 (by omega) _ I1.out).mono ?_
    rw [OK.out]
    rintro e w2 ⟨A2, n2, c2, rfl, l2, r2, N2a⟩
    have s2 := N2a.le
    have I1 := Lib.hid (I1.out.new N2a)
    have RB := Lib.hid (RB.out.new N2a)
    have N2 := Lib.hid ((N1.out.alloc (.cells #[.int .i64 y0, .int .i64 y1, .int .i64 y2, .int .i64 y3, .int .i64 y4, .int .i64 y5, .int .i64 y6, .int .i64 y7, .int .i64 y8] 36)).trans N2a); clear N2a
    obtain rfl : 0 = n2 := by have := LP.out; omega
    have R2 := Lib.hid r2; clear l2 r2
    clear bx0 bx1 bx2 bx3 bx4 bx5 bx6 bx7 bx8
    have bx0 := RB.out.c 0 (by simp)
    have bx1 := RB.out.c 1 (by simp)
    have bx2 := RB.out.c 2 (by simp)
    have bx3 := RB.out.c 3 (by simp)
    have bx4 := RB.out.c 4 (by simp)
    have bx5 := RB.out.c 5 (by simp)
    have bx6 := RB.out.c 6 (by simp)
    have bx7 := RB.out.c 7 (by simp)
    have bx8 := RB.out.c 8 (by simp)
    simp only [List.getD_cons_zero, List.getD_cons_succ] at bx0 bx1 bx2 bx3 bx4 bx5 bx6 bx7 bx8
    go_wp2_with fail
    refine (SAddBox_ansT B1 m1 d1 zs x y0 y1 y2 y3 y4 y5 y6 y7 y8 (by omega) kd _ I1.out).mono ?_
    rw [OK.out]
    rintro e w3 ⟨A3, n3, c3, rfl, l3, r3, N3a⟩
    have s3 := N3a.le
    have I1 := Lib.hid (I1.out.new N3a)
    have RB := Lib.hid (RB.out.new N3a)
    have R2 := Lib.hid (R2.out.new N3a)
    have N3 := Lib.hid (N2.out.trans N3a); clear N3a
    obtain rfl : 0 = n3 := by have := LP.out; omega
    have R3 := Lib.hid r3; clear l3 r3
    clear bx0 bx1 bx2 bx3 bx4 bx5 bx6 bx7 bx8
    go_wp2_with fail
    refine (equalBoxes_same _ _ 0 _ _ _ (by omega) _ (Sts.of_res R2.out LP.out) (Sts.of_res R3.out LP.out)).mono ?_
    rintro e w4 ⟨rfl, N4a⟩
    have s4 := N4a.le
    have I1 := Lib.hid (I1.out.new N4a)
    have RB := Lib.hid (RB.out.new N4a)
    have R2 := Lib.hid (R2.out.new N4a)
    have R3 := Lib.hid (R3.out.new N4a)
    have N4 := Lib.hid (N3.out.trans N4a); clear N4a
    go_wp2_with fail
    refine (equalBoxes_same _ _ 0 _ _ _ (by omega) _ (Sts.of_res R2.out LP.out) (Sts.of_res R3.out LP.out)).mono ?_
    rintro e w5 ⟨rfl, N5a⟩
    have s5 := N5a.le
    have I1 := Lib.hid (I1.out.new N5a)
    have RB := Lib.hid (RB.out.new N5a)
    have R2 := Lib.hid (R2.out.new N5a)
    have R3 := Lib.hid (R3.out.new N5a)
    have N5 := Lib.hid (N4.out.trans N5a); clear N5a
    go_wp2
    go_ret
    exact ⟨by first | rfl | simp, N5.out⟩
  · have OK := Lib.hid hso
    have hn2 := hso
    unfold addOk at hn2
    rw [Bool.and_eq_true] at hn2
    obtain ⟨hv, a, rfl, ha⟩ := nodeOk_iff.1 hn2.1
    have m16 := (vtB_iff.1 hn2.2).1.2
    have vt2 := hn2.2
    rw [Int.toNat_natCast] at vt2
    have hA := added (bs := [y1, y2, y3, y4, y5, y6, y7, y8]) HL.out ha rfl
    have hAL : addA m1 zs (a : Int) [y1, y2, y3, y4, y5, y6, y7, y8] = addL m1 zs a [y1, y2, y3, y4, y5, y6, y7, y8] := by unfold addA; rw [if_pos hso, Int.toNat_natCast]
    obtain ⟨M, hM⟩ : ∃ M, m1 + 1 = M := ⟨_, rfl⟩
    have LP : Hid ((addA m1 zs (a : Int) [y1, y2, y3, y4, y5, y6, y7, y8]).length = M * 9) := Lib.hid (by rw [← hM]; exact addA_mul HL.out _ _ rfl hso)
    have M16 : M ≤ 16 := by omega
    have a0 : (0 : Int) ≤ (a : Int) := by omega
    have a1 : (a : Int) < (m1 : Int) := by omega
    have MI : (M : Int) = (m1 : Int) + 1 := by omega
    have HMI := Lib.hid MI
    clear MI xb
    have kk := hA.kids (link_vt hv) (link_vt vt2) rfl
    have KO : Hid (kidsA M (addA m1 zs (a : Int) [y1, y2, y3, y4, y5, y6, y7, y8]) (a : Int) = (kidL zs m1 a ++ [en zs m1 a]).map Int.ofNat) := Lib.hid (by rw [hAL, ← hM, kidsA_at vt2 (by omega), kk])
    have rk := rem_add (bs := [y1, y2, y3, y4, y5, y6, y7, y8]) hv HL.out ha rfl
    have RA : Hid (remA M (addA m1 zs (a : Int) [y1, y2, y3, y4, y5, y6, y7, y8]) ((en zs m1 a : Nat) : Int) = zs) := Lib.hid (by
      have eb := en_bd (zs := zs) ha
      unfold remA remOk
      rw [hAL, ← hM, if_pos (by rw [nodeOk_iff.2 ⟨vt2, en zs m1 a, rfl, by omega⟩]; simp; omega), Int.toNat_natCast]; exact rk)
    have OKR : Hid (remOk M (addA m1 zs (a : Int) [y1, y2, y3, y4, y5, y6, y7, y8]) ((en zs m1 a : Nat) : Int) = true) := Lib.hid (by
      have eb := en_bd (zs := zs) ha
      unfold remOk
      rw [hAL, ← hM, nodeOk_iff.2 ⟨vt2, en zs m1 a, rfl, by omega⟩]; simp; omega)
    have VT2 : Hid (vtB M (addA m1 zs (a : Int) [y1, y2, y3, y4, y5, y6, y7, y8]) = true) := Lib.hid (by rw [hAL, ← hM]; exact vt2)
    have C0 : Hid ((addA m1 zs (a : Int) [y1, y2, y3, y4, y5, y6, y7, y8]).getD (en zs m1 a * 9) 0 = (a : Int)) := Lib.hid (by rw [hAL]; exact hA.new)
    have C1 : Hid ((addA m1 zs (a : Int) [y1, y2, y3, y4, y5, y6, y7, y8]).getD (en zs m1 a * 9 + 1) 0 = y1) := Lib.hid (by rw [hAL, addL_new HL.out ha rfl (by omega)]; rfl)
    have eb := en_bd (zs := zs) ha
    have eM : en zs m1 a < M := by omega
    have k8 := kids_le (a := a) hv
    obtain ⟨q, hq⟩ : ∃ q, (kidL zs m1 a).length = q := ⟨_, rfl⟩
    obtain ⟨nz, hnz⟩ : ∃ nz, q + 1 = nz := ⟨_, rfl⟩
    have LK : Hid ((kidsA M (addA m1 zs (a : Int) [y1, y2, y3, y4, y5, y6, y7, y8]) (a : Int)).length = nz) := Lib.hid (by rw [KO.out, List.length_map, List.length_append, hq, ← hnz]; rfl)
    have GE : Hid ((kidsA M (addA m1 zs (a : Int) [y1, y2, y3, y4, y5, y6, y7, y8]) (a : Int)).getD q 0 = ((en zs m1 a : Nat) : Int)) := Lib.hid (by rw [KO.out, getD_map, gd_app2 (by omega), hq, Nat.sub_self]; rfl)
    have nzq : (nz : Int) - 1 = (q : Int) := by omega
    have nzb : ((nz : Int) == 0) = false := by simp; omega
    have nz9 : (nz : Int) ≤ 9 := by omega
    have nz1 : (1 : Int) ≤ (nz : Int) := by omega
    have qn : q < nz := by omega
    have NZQ := Lib.hid nzq
    generalize en zs m1 a = ee at *
    have e0 : (0 : Int) ≤ (ee : Int) := by omega
    have e1 : (ee : Int) < (M : Int) := by omega
    have e2 : decide (ee < M) = true := decide_eq_true eM
    have q0 : (0 : Int) ≤ (q : Int) := by omega
    clear hso hn2 vt2 hA hAL hv kk rk hM eb k8 hq hnz nzq
    have bx0 := RB.out.c 0 (by simp)
    have bx1 := RB.out.c 1 (by simp)
    have bx2 := RB.out.c 2 (by simp)
    have bx3 := RB.out.c 3 (by simp)
    have bx4 := RB.out.c 4 (by simp)
    have bx5 := RB.out.c 5 (by simp)
    have bx6 := RB.out.c 6 (by simp)
    have bx7 := RB.out.c 7 (by simp)
    have bx8 := RB.out.c 8 (by simp)
    simp only [List.getD_cons_zero, List.getD_cons_succ] at bx0 bx1 bx2 bx3 bx4 bx5 bx6 bx7 bx8
    go_wp2_with fail
    refine (AddBox_ansT B1 m1 d1 zs (a : Int) y0 y1 y2 y3 y4 y5 y6 y7 y8 (by omega) _ I1.out).mono ?_
    rw [OK.out]
    rintro e w2 ⟨A2, n2, c2, rfl, l2, r2, N2a⟩
    have s2 := N2a.le
    have I1 := Lib.hid (I1.out.new N2a)
    have RB := Lib.hid (RB.out.new N2a)
    have N2 := Lib.hid ((N1.out.alloc (.cells #[.int .i64 y0, .int .i64 y1, .int .i64 y2, .int .i64 y3, .int .i64 y4, .int .i64 y5, .int .i64 y6, .int .i64 y7, .int .i64 y8] 36)).trans N2a); clear N2a
    obtain rfl : M = n2 := by have := LP.out; omega
    have R2 := Lib.hid r2; clear l2 r2
    clear bx0 bx1 bx2 bx3 bx4 bx5 bx6 bx7 bx8
    have bx0 := RB.out.c 0 (by simp)
    have bx1 := RB.out.c 1 (by simp)
    have bx2 := RB.out.c 2 (by simp)
    have bx3 := RB.out.c 3 (by simp)
    have bx4 := RB.out.c 4 (by simp)
    have bx5 := RB.out.c 5 (by simp)
    have bx6 := RB.out.c 6 (by simp)
    have bx7 := RB.out.c 7 (by simp)
    have bx8 := RB.out.c 8 (by simp)
    simp only [List.getD_cons_zero, List.getD_cons_succ] at bx0 bx1 bx2 bx3 bx4 bx5 bx6 bx7 bx8
    go_wp2_with fail
    refine (SAddBox_ansT B1 m1 d1 zs (a : Int) y0 y1 y2 y3 y4 y5 y6 y7 y8 (by omega) kd _ I1.out).mono ?_
    rw [OK.out]
    rintro e w3 ⟨A3, n3, c3, rfl, l3, r3, N3a⟩
    have s3 := N3a.le
    have I1 := Lib.hid (I1.out.new N3a)
    have RB := Lib.hid (RB.out.new N3a)
    have R2 := Lib.hid (R2.out.new N3a)
    have N3 := Lib.hid (N2.out.trans N3a); clear N3a
    obtain rfl : M = n3 := by have := LP.out; omega
    have R3 := Lib.hid r3; clear l3 r3
    clear bx0 bx1 bx2 bx3 bx4 bx5 bx6 bx7 bx8
    go_wp2_with fail
    refine (equalBoxes_same _ _ M _ _ _ (by omega) _ (Sts.of_res R2.out LP.out) (Sts.of_res R3.out LP.out)).mono ?_
    rintro e w4 ⟨rfl, N4a⟩
    have s4 := N4a.le
    have I1 := Lib.hid (I1.out.new N4a)
    have RB := Lib.hid (RB.out.new N4a)
    have R2 := Lib.hid (R2.out.new N4a)
    have R3 := Lib.hid (R3.out.new N4a)
    have N4 := Lib.hid (N3.out.trans N4a); clear N4a
    have RO := Lib.hid (Sts.of_res R2.out LP.out)
    generalize addA m1 zs (a : Int) [y1, y2, y3, y4, y5, y6, y7, y8] = T at *
    go_wp2_with fail
    refine (KidsOf_ans A2 M c2 T (a : Int) (by omega) _ RO.out).mono ?_
    rintro e w5 ⟨A5, n5, c5, rfl, l5, r5, N5a⟩
    have s5 := N5a.le
    have I1 := Lib.hid (I1.out.new N5a)
    have RB := Lib.hid (RB.out.new N5a)
    have R2 := Lib.hid (R2.out.new N5a)
    have R3 := Lib.hid (R3.out.new N5a)
    have RO := Lib.hid (RO.out.new N5a)
    have N5 := Lib.hid (N4.out.trans N5a); clear N5a
    obtain rfl : nz = n5 := by have := LK.out; omega
    obtain ⟨b5, off5, rfl, hb5, hc5⟩ := (r5.ints LK.out).at_ (by omega)
    have g5 := hc5 q qn
    rw [GE.out] at g5
    have q1 : (q : Int) < (nz : Int) := by omega
    have nzq := NZQ.out
    clear hc5 hb5 l5 r5
    go_wp2_with fail
    refine (RemoveBox_ansT A2 M c2 T (ee : Int) (by omega) _ RO.out).mono ?_
    rw [OKR.out, RA.out]
    rintro e w6 ⟨A6, n6, c6, rfl, l6, r6, N6a⟩
    have s6 := N6a.le
    obtain rfl : m1 = n6 := by have := HL.out; omega
    have I1 := Lib.hid (I1.out.new N6a)
    have RB := Lib.hid (RB.out.new N6a)
    have RO := Lib.hid (RO.out.new N6a)
    have N6 := Lib.hid (N5.out.trans N6a)
    have R6 := Lib.hid r6
    clear N6a l6 r6 g5 q1 nzq
    obtain ⟨b7, off7, e7, hb7, hc7⟩ := RO.out.at_ (by omega)
    have t0 := hc7 (ee * 9) (by omega)
    have t1 := hc7 (ee * 9 + 1) (by omega)
    rw [C0.out] at t0
    rw [C1.out, ← Nat.add_assoc] at t1
    subst e7
    have t2 := RB.out.c 1 (by simp)
    simp only [List.getD_cons_zero, List.getD_cons_succ] at t2
    have K1 : w6.drew.cell? ⟨b7, off7 + ee * 9, none⟩ = some (.int .i64 (a : Int)) ∧ w6.drew.cell? ⟨b7, off7 + ee * 9 + 1, none⟩ = some (.int .i64 y1) ∧ w6.drew.cell? ⟨w1.heap.size, 1, none⟩ = some (.int .i64 y1) := ⟨t0, t1, t2⟩
    have K1h := Lib.hid K1
    have hb1 := RB.out.lt
    have KF := Lib.hid (fun (W : World) (h : New w6.drew W) => (⟨(h.cells _ _ hb7).trans K1h.out.1, (h.cells _ _ hb7).trans K1h.out.2.1, (h.cells _ _ hb1).trans K1h.out.2.2⟩ : W.cell? ⟨b7, off7 + ee * 9, none⟩ = some (.int .i64 (a : Int)) ∧ W.cell? ⟨b7, off7 + ee * 9 + 1, none⟩ = some (.int .i64 y1) ∧ W.cell? ⟨w1.heap.size, 1, none⟩ = some (.int .i64 y1)))
    have HD := Lib.hid (New.refl w6).drew
    have RJ := Lib.hid (R6.out.new HD.out); have I9 := Lib.hid (I1.out.new HD.out); have RO9 := Lib.hid (RO.out.new HD.out)
    have NE := Lib.hid (N6.out)
    clear hc7 hb7 t0 t1 t2
    go_wp2
    go_region_held3 (fun w' => w'.cell? ⟨b7, off7 + ee * 9, none⟩ = some (.int .i64 (a : Int)) ∧ w'.cell? ⟨b7, off7 + ee * 9 + 1, none⟩ = some (.int .i64 y1) ∧ w'.cell? ⟨w1.heap.size, 1, none⟩ = some (.int .i64 y1))
      (first | exact K1 | exact K2 | exact K3 | assumption)
      (first
        | (go_at_call 30; refine (equalBoxes_same A6 B1 m1 c6 d1 zs (by omega) _ (Sts.of_res RJ.out HL.out) I9.out).mono ?_; rintro e we ⟨rfl, Ne⟩; (have RO2 := Lib.hid (RO9.out.new Ne)); (have K2 := KF.out we Ne); (have NQ := Lib.hid Ne); clear Ne)
        | (go_at_call 34; refine (ValidTree_any _ M c2 T (by omega) _ RO2.out).mono ?_; rw [VT2.out]; rintro e wf ⟨rfl, Nf⟩; (have K3 := KF.out wf (NQ.out.trans Nf)); (replace Nf := Lib.hid (HD.out.trans (NQ.out.trans Nf)))))
    go_wp2
    go_ret
    exact ⟨by first | rfl | simp, NE.out.trans Nf.out⟩
end Go.Proofs.Ytnihklilappimaa
