/- The law FnStyleBoxSame, walked: the own style of a box changes nothing. Condition: the code can be read. -/
import Derived.Test.YtkaagpfgpacfcaaDrawEd
import Derived.Test.YtkaagpfgpacfcaaStyV
import Derived.Test.YtkaagpfgpacfcaaBoxQ
import Derived.Test.YtkaagpfgpacfcaaTreeE
namespace Go.Proofs.Ytkaagpfgpacfcaa
open Go.RowKit

set_option maxRecDepth 100000 in
set_option maxHeartbeats 4000000 in
theorem lawStyleBoxSame (A : Option Addr) (n c : Nat) (hn : n ≤ maxLen) (hnc : n ≤ c) (w : World) (hb : Bytes w A n) :
    Calls Try.prog 11 #[.slice A n c] w fun e w' => e = .returned (.bool true) ∧ New w w' := by
  have HB := Lib.hid hb; have HM := Lib.hid hn
  clear hb
  unfold maxLen at hn
  by_cases hbig : 1048576 < n
  · go_enter Try.func11, Try.ntmps11
    go_wp2
    go_ret
    exact ⟨rfl, by (repeat (first | exact New.refl _ | assumption | refine New.alloc ?_ _ | refine New.drew ?_ | refine New.drewN ?_ _ | refine New.setCell ?_ (by first | omega | (simp; omega) | (simp; done)) _ | refine New.trans ?_ (by assumption)))⟩
  have hm : (n : Int) ≤ 1048576 := by omega
  have hm0 : (0 : Int) ≤ (n : Int) := by omega
  go_enter Try.func11, Try.ntmps11
  go_wp2_with fail
  refine (DrawStyleBox_any A n c HM.out hnc _ HB.out).mono ?_
  rintro e w1 ⟨B1, m1, d1, zs, x, y0, y1, y2, y3, y4, y5, y6, y7, y8, rfl, I1, l1, kd, xb, N1a⟩
  have s1 := N1a.le
  have N1 := Lib.hid ((New.refl w).trans N1a); clear N1a
  replace I1 := I1 _ (Chg.refl _ _ _)
  have HL := Lib.hid I1.len
  have RB := Lib.hid (Row.oneBox w1 y0 y1 y2 y3 y4 y5 y6 y7 y8 35)
  have sb := RB.out.lt
  replace I1 := Lib.hid (I1.new ((New.refl _).alloc (.cells #[.int .i64 y0, .int .i64 y1, .int .i64 y2, .int .i64 y3, .int .i64 y4, .int .i64 y5, .int .i64 y6, .int .i64 y7, .int .i64 y8] 35)))
  by_cases hn1 : nodeOk m1 zs x = true
  · obtain ⟨hv, a, rfl, ha⟩ := nodeOk_iff.1 hn1
    have HV := Lib.hid hv
    have OKS := Lib.hid (styOk_same hv HL.out ha); have AS := Lib.hid (styA_same hv HL.out ha)
    have LPS : Hid ((styA m1 zs (a : Int) (zs.getD (a * 9 + 1) 0) (zs.getD (a * 9 + 2) 0) (zs.getD (a * 9 + 3) 0) (zs.getD (a * 9 + 4) 0) (zs.getD (a * 9 + 5) 0) (zs.getD (a * 9 + 6) 0) (zs.getD (a * 9 + 7) 0) (zs.getD (a * 9 + 8) 0)).length = m1 * 9) := Lib.hid (by rw [AS.out]; exact HL.out)
    have a0 : (0 : Int) ≤ (a : Int) := by omega
    have a1 : (a : Int) < (m1 : Int) := by omega
    have da1 : decide (m1 ≤ a) = false := decide_eq_false (by omega)
    have da2 : decide ((m1 : Int) ≤ (a : Int)) = false := decide_eq_false (by omega)
    have da3 : decide ((a : Int) < 0) = false := decide_eq_false (by omega)
    clear hn1 hv xb
    obtain ⟨M, hM, M16⟩ := styA_mul (n := m1) (b1 := y1) (b2 := y2) (b3 := y3) (b4 := y4) (b5 := y5) (b6 := y6) (b7 := y7) (b8 := y8) HL.out (a : Int)
    have LP := Lib.hid hM
    obtain ⟨okb, hok⟩ : ∃ okb, styOk m1 zs (a : Int) y1 y2 y3 y4 y5 y6 y7 y8 = okb := ⟨_, rfl⟩
    have OK := Lib.hid hok
    clear hM
    have bx0 := RB.out.c 0 (by simp)
    have bx1 := RB.out.c 1 (by simp)
    have bx2 := RB.out.c 2 (by simp)
    have bx3 := RB.out.c 3 (by simp)
    have bx4 := RB.out.c 4 (by simp)
    have bx5 := RB.out.c 5 (by simp)
    have bx6 := RB.out.c 6 (by simp)
    have bx7 := RB.out.c 7 (by simp)
    have bx8 := RB.out.c 8 (by simp)
    simp only [List.getD_cons_zero, List.getD_cons_succ] at bx0 bx1 bx2 bx3 bx4 bx5 bx6 bx7 bx8
    go_wp2_with fail
    refine (StyleBox_ansT B1 m1 d1 zs (a : Int) y0 y1 y2 y3 y4 y5 y6 y7 y8 (by omega) _ I1.out).mono ?_
    rw [OK.out]
    rintro e w2 ⟨A2, n2, c2, rfl, l2, r2, N2a⟩
    have s2 := N2a.le
    have I1 := Lib.hid (I1.out.new N2a)
    have RB := Lib.hid (RB.out.new N2a)
    have N2 := Lib.hid ((N1.out.alloc (.cells #[.int .i64 y0, .int .i64 y1, .int .i64 y2, .int .i64 y3, .int .i64 y4, .int .i64 y5, .int .i64 y6, .int .i64 y7, .int .i64 y8] 35)).trans N2a); clear N2a
    obtain rfl : M = n2 := by have := LP.out; omega
    have R2 := Lib.hid r2; clear l2 r2
    clear bx0 bx1 bx2 bx3 bx4 bx5 bx6 bx7 bx8
    have bx0 := RB.out.c 0 (by simp)
    have bx1 := RB.out.c 1 (by simp)
    have bx2 := RB.out.c 2 (by simp)
    have bx3 := RB.out.c 3 (by simp)
    have bx4 := RB.out.c 4 (by simp)
    have bx5 := RB.out.c 5 (by simp)
    have bx6 := RB.out.c 6 (by simp)
    have bx7 := RB.out.c 7 (by simp)
    have bx8 := RB.out.c 8 (by simp)
    simp only [List.getD_cons_zero, List.getD_cons_succ] at bx0 bx1 bx2 bx3 bx4 bx5 bx6 bx7 bx8
    go_wp2_with fail
    refine (SStyleBox_ansT B1 m1 d1 zs (a : Int) y0 y1 y2 y3 y4 y5 y6 y7 y8 (by omega) _ I1.out).mono ?_
    rw [OK.out]
    rintro e w3 ⟨A3, n3, c3, rfl, l3, r3, N3a⟩
    have s3 := N3a.le
    have I1 := Lib.hid (I1.out.new N3a)
    have RB := Lib.hid (RB.out.new N3a)
    have R2 := Lib.hid (R2.out.new N3a)
    have N3 := Lib.hid (N2.out.trans N3a); clear N3a
    obtain rfl : M = n3 := by have := LP.out; omega
    have R3 := Lib.hid r3; clear l3 r3
    clear bx0 bx1 bx2 bx3 bx4 bx5 bx6 bx7 bx8
    go_wp2_with fail
    refine (equalBoxes_same _ _ M _ _ _ (by omega) _ (Sts.of_res R2.out LP.out) (Sts.of_res R3.out LP.out)).mono ?_
    rintro e w4 ⟨rfl, N4a⟩
    have s4 := N4a.le
    have I1 := Lib.hid (I1.out.new N4a)
    have RB := Lib.hid (RB.out.new N4a)
    have R2 := Lib.hid (R2.out.new N4a)
    have R3 := Lib.hid (R3.out.new N4a)
    have N4 := Lib.hid (N3.out.trans N4a); clear N4a
    go_wp2_with fail
    refine (ValidTree_any B1 m1 d1 zs (by omega) _ I1.out).mono ?_
    rw [HV.out]
    rintro e w5 ⟨rfl, N5a⟩
    have s5 := N5a.le
    have I1 := Lib.hid (I1.out.new N5a)
    have RB := Lib.hid (RB.out.new N5a)
    have R2 := Lib.hid (R2.out.new N5a)
    have R3 := Lib.hid (R3.out.new N5a)
    have N5 := Lib.hid (N4.out.trans N5a); clear N5a
    obtain ⟨b, off, rfl, hb, hc⟩ := I1.out.at_ (by omega)
    have t0 := hc (a * 9) (by omega)
    have t1 := hc (a * 9 + 1) (by omega)
    rw [← Nat.add_assoc] at t1
    have t2 := hc (a * 9 + 2) (by omega)
    rw [← Nat.add_assoc] at t2
    have t3 := hc (a * 9 + 3) (by omega)
    rw [← Nat.add_assoc] at t3
    have t4 := hc (a * 9 + 4) (by omega)
    rw [← Nat.add_assoc] at t4
    have t5 := hc (a * 9 + 5) (by omega)
    rw [← Nat.add_assoc] at t5
    have t6 := hc (a * 9 + 6) (by omega)
    rw [← Nat.add_assoc] at t6
    have t7 := hc (a * 9 + 7) (by omega)
    rw [← Nat.add_assoc] at t7
    have t8 := hc (a * 9 + 8) (by omega)
    rw [← Nat.add_assoc] at t8
    clear hc hb
    go_wp2_with fail
    refine (StyleBox_ansT _ m1 d1 zs (a : Int) (zs.getD (a * 9) 0) (zs.getD (a * 9 + 1) 0) (zs.getD (a * 9 + 2) 0) (zs.getD (a * 9 + 3) 0) (zs.getD (a * 9 + 4) 0) (zs.getD (a * 9 + 5) 0) (zs.getD (a * 9 + 6) 0) (zs.getD (a * 9 + 7) 0) (zs.getD (a * 9 + 8) 0) (by omega) _ I1.out).mono ?_
    rw [OKS.out]
    rintro e w6 ⟨A6, n6, c6, rfl, l6, r6, N6a⟩
    have s6 := N6a.le
    have I1 := Lib.hid (I1.out.new N6a)
    have RB := Lib.hid (RB.out.new N6a)
    have R2 := Lib.hid (R2.out.new N6a)
    have R3 := Lib.hid (R3.out.new N6a)
    have N6 := Lib.hid (N5.out.trans N6a); clear N6a
    obtain rfl : m1 = n6 := by have := LPS.out; omega
    have R6 := Lib.hid r6; clear l6 r6
    go_wp2_with fail
    refine (equalBoxes_same A6 _ m1 c6 d1 zs (by omega) _ (by have h := Sts.of_res R6.out LPS.out; rw [AS.out] at h; exact h) I1.out).mono ?_
    rintro e w7 ⟨rfl, N7a⟩
    have s7 := N7a.le
    have I1 := Lib.hid (I1.out.new N7a)
    have RB := Lib.hid (RB.out.new N7a)
    have R2 := Lib.hid (R2.out.new N7a)
    have R3 := Lib.hid (R3.out.new N7a)
    have R6 := Lib.hid (R6.out.new N7a)
    have N7 := Lib.hid (N6.out.trans N7a); clear N7a
    go_wp2
    go_ret
    exact ⟨by simp, N7.out⟩
  · have hok' : nodeOk m1 zs x = false := by simpa using hn1
    clear hn1
    obtain ⟨M, hM, M16⟩ := styA_mul (n := m1) (b1 := y1) (b2 := y2) (b3 := y3) (b4 := y4) (b5 := y5) (b6 := y6) (b7 := y7) (b8 := y8) HL.out x
    have LP := Lib.hid hM
    obtain ⟨okb, hok⟩ : ∃ okb, styOk m1 zs x y1 y2 y3 y4 y5 y6 y7 y8 = okb := ⟨_, rfl⟩
    have OK := Lib.hid hok
    clear hM
    have bx0 := RB.out.c 0 (by simp)
    have bx1 := RB.out.c 1 (by simp)
    have bx2 := RB.out.c 2 (by simp)
    have bx3 := RB.out.c 3 (by simp)
    have bx4 := RB.out.c 4 (by simp)
    have bx5 := RB.out.c 5 (by simp)
    have bx6 := RB.out.c 6 (by simp)
    have bx7 := RB.out.c 7 (by simp)
    have bx8 := RB.out.c 8 (by simp)
    simp only [List.getD_cons_zero, List.getD_cons_succ] at bx0 bx1 bx2 bx3 bx4 bx5 bx6 bx7 bx8
    go_wp2_with fail
    refine (StyleBox_ansT B1 m1 d1 zs x y0 y1 y2 y3 y4 y5 y6 y7 y8 (by omega) _ I1.out).mono ?_
    rw [OK.out]
    rintro e w2 ⟨A2, n2, c2, rfl, l2, r2, N2a⟩
    have s2 := N2a.le
    have I1 := Lib.hid (I1.out.new N2a)
    have RB := Lib.hid (RB.out.new N2a)
    have N2 := Lib.hid ((N1.out.alloc (.cells #[.int .i64 y0, .int .i64 y1, .int .i64 y2, .int .i64 y3, .int .i64 y4, .int .i64 y5, .int .i64 y6, .int .i64 y7, .int .i64 y8] 35)).trans N2a); clear N2a
    obtain rfl : M = n2 := by have := LP.out; omega
    have R2 := Lib.hid r2; clear l2 r2
    clear bx0 bx1 bx2 bx3 bx4 bx5 bx6 bx7 bx8
    have bx0 := RB.out.c 0 (by simp)
    have bx1 := RB.out.c 1 (by simp)
    have bx2 := RB.out.c 2 (by simp)
    have bx3 := RB.out.c 3 (by simp)
    have bx4 := RB.out.c 4 (by simp)
    have bx5 := RB.out.c 5 (by simp)
    have bx6 := RB.out.c 6 (by simp)
    have bx7 := RB.out.c 7 (by simp)
    have bx8 := RB.out.c 8 (by simp)
    simp only [List.getD_cons_zero, List.getD_cons_succ] at bx0 bx1 bx2 bx3 bx4 bx5 bx6 bx7 bx8
    go_wp2_with fail
    refine (SStyleBox_ansT B1 m1 d1 zs x y0 y1 y2 y3 y4 y5 y6 y7 y8 (by omega) _ I1.out).mono ?_
    rw [OK.out]
    rintro e w3 ⟨A3, n3, c3, rfl, l3, r3, N3a⟩
    have s3 := N3a.le
    have I1 := Lib.hid (I1.out.new N3a)
    have RB := Lib.hid (RB.out.new N3a)
    have R2 := Lib.hid (R2.out.new N3a)
    have N3 := Lib.hid (N2.out.trans N3a); clear N3a
    obtain rfl : M = n3 := by have := LP.out; omega
    have R3 := Lib.hid r3; clear l3 r3
    clear bx0 bx1 bx2 bx3 bx4 bx5 bx6 bx7 bx8
    go_wp2_with fail
    refine (equalBoxes_same _ _ M _ _ _ (by omega) _ (Sts.of_res R2.out LP.out) (Sts.of_res R3.out LP.out)).mono ?_
    rintro e w4 ⟨rfl, N4a⟩
    have s4 := N4a.le
    have I1 := Lib.hid (I1.out.new N4a)
    have RB := Lib.hid (RB.out.new N4a)
    have R2 := Lib.hid (R2.out.new N4a)
    have R3 := Lib.hid (R3.out.new N4a)
    have N4 := Lib.hid (N3.out.trans N4a); clear N4a
    rcases noBox_cases hok' with hv | ⟨hv, hd⟩
    · have HV := Lib.hid hv; clear hv hok'
      go_wp2_with fail
      refine (ValidTree_any B1 m1 d1 zs (by omega) _ I1.out).mono ?_
      rw [HV.out]
      rintro e w5 ⟨rfl, N5a⟩
      have s5 := N5a.le
      have I1 := Lib.hid (I1.out.new N5a)
      have RB := Lib.hid (RB.out.new N5a)
      have R2 := Lib.hid (R2.out.new N5a)
      have R3 := Lib.hid (R3.out.new N5a)
      have N5 := Lib.hid (N4.out.trans N5a); clear N5a
      go_wp2_with fail
      refine (equalBoxes_same _ _ M _ _ _ (by omega) _ (Sts.of_res R2.out LP.out) (Sts.of_res R3.out LP.out)).mono ?_
      rintro e w6 ⟨rfl, N6a⟩
      have s6 := N6a.le
      have I1 := Lib.hid (I1.out.new N6a)
      have RB := Lib.hid (RB.out.new N6a)
      have R2 := Lib.hid (R2.out.new N6a)
      have R3 := Lib.hid (R3.out.new N6a)
      have N6 := Lib.hid (N5.out.trans N6a); clear N6a
      go_wp2
      go_ret
      exact ⟨by simp, N6.out⟩
    · have HV := Lib.hid hv; have hd := of_decide_eq_false hd; clear hv hok'
      by_cases h0 : x < 0
      · clear hd
        go_wp2_with fail
        refine (ValidTree_any B1 m1 d1 zs (by omega) _ I1.out).mono ?_
        rw [HV.out]
        rintro e w5 ⟨rfl, N5a⟩
        have s5 := N5a.le
        have I1 := Lib.hid (I1.out.new N5a)
        have RB := Lib.hid (RB.out.new N5a)
        have R2 := Lib.hid (R2.out.new N5a)
        have R3 := Lib.hid (R3.out.new N5a)
        have N5 := Lib.hid (N4.out.trans N5a); clear N5a
        go_wp2_with fail
        refine (equalBoxes_same _ _ M _ _ _ (by omega) _ (Sts.of_res R2.out LP.out) (Sts.of_res R3.out LP.out)).mono ?_
        rintro e w6 ⟨rfl, N6a⟩
        have s6 := N6a.le
        have I1 := Lib.hid (I1.out.new N6a)
        have RB := Lib.hid (RB.out.new N6a)
        have R2 := Lib.hid (R2.out.new N6a)
        have R3 := Lib.hid (R3.out.new N6a)
        have N6 := Lib.hid (N5.out.trans N6a); clear N6a
        go_wp2
        go_ret
        exact ⟨by simp, N6.out⟩
      · have h1 : x ≥ (m1 : Int) := by omega
        clear hd
        go_wp2_with fail
        refine (ValidTree_any B1 m1 d1 zs (by omega) _ I1.out).mono ?_
        rw [HV.out]
        rintro e w5 ⟨rfl, N5a⟩
        have s5 := N5a.le
        have I1 := Lib.hid (I1.out.new N5a)
        have RB := Lib.hid (RB.out.new N5a)
        have R2 := Lib.hid (R2.out.new N5a)
        have R3 := Lib.hid (R3.out.new N5a)
        have N5 := Lib.hid (N4.out.trans N5a); clear N5a
        go_wp2_with fail
        refine (equalBoxes_same _ _ M _ _ _ (by omega) _ (Sts.of_res R2.out LP.out) (Sts.of_res R3.out LP.out)).mono ?_
        rintro e w6 ⟨rfl, N6a⟩
        have s6 := N6a.le
        have I1 := Lib.hid (I1.out.new N6a)
        have RB := Lib.hid (RB.out.new N6a)
        have R2 := Lib.hid (R2.out.new N6a)
        have R3 := Lib.hid (R3.out.new N6a)
        have N6 := Lib.hid (N5.out.trans N6a); clear N6a
        go_wp2
        go_ret
        exact ⟨by simp, N6.out⟩
end Go.Proofs.Ytkaagpfgpacfcaa
