/- The law FnAddBoxSize, walked: the first box needs no less with a box more. Condition: the code can be read. -/
import Derived.Test.YtobnjagmakhgpaaDrawEd
import Derived.Test.YtobnjagmakhgpaaEdA
import Derived.Test.YtobnjagmakhgpaaAddZ
import Derived.Test.YtobnjagmakhgpaaBoxQ
import Derived.Test.YtobnjagmakhgpaaZF
import Derived.Test.YtobnjagmakhgpaaZI
import Derived.Deep.RegionHeld3
namespace Go.Proofs.Ytobnjagmakhgpaa
open Go.RowKit

set_option maxHeartbeats 4000000 in
theorem lawAddBoxSize (A : Option Addr) (n c : Nat) (hn : n ≤ maxLen) (hnc : n ≤ c) (w : World) (hb : Bytes w A n) :
    Calls Try.prog 5 #[.slice A n c] w fun e w' => e = .returned (.bool true) ∧ New w w' := by
  have HB := Lib.hid hb; have HM := Lib.hid hn
  clear hb
  unfold maxLen at hn
  by_cases hbig : 1048576 < n
  · go_enter Try.func5, Try.ntmps5
    go_wp2
    go_ret
    exact ⟨rfl, by (repeat (first | exact New.refl _ | assumption | refine New.alloc ?_ _ | refine New.drew ?_ | refine New.drewN ?_ _ | refine New.setCell ?_ (by first | omega | (simp; omega) | (simp; done)) _ | refine New.trans ?_ (by assumption)))⟩
  have hm : (n : Int) ≤ 1048576 := by omega
  have hm0 : (0 : Int) ≤ (n : Int) := by omega
  go_enter Try.func5, Try.ntmps5
  go_wp2_with fail
  refine (DrawAddBox_any A n c HM.out hnc _ HB.out).mono ?_
  rintro e w1 ⟨B1, m1, d1, zs, x, y0, y1, y2, y3, y4, y5, y6, y7, y8, rfl, I1, l1, kd, xb, N1a⟩
  have s1 := N1a.le
  have N1 := Lib.hid ((New.refl w).trans N1a); clear N1a
  replace I1 := I1 _ (Chg.refl _ _ _)
  have HL := Lib.hid I1.len
  have RB := Lib.hid (Row.oneBox w1 y0 y1 y2 y3 y4 y5 y6 y7 y8 30)
  have sb := RB.out.lt
  replace I1 := Lib.hid (I1.new ((New.refl _).alloc (.cells #[.int .i64 y0, .int .i64 y1, .int .i64 y2, .int .i64 y3, .int .i64 y4, .int .i64 y5, .int .i64 y6, .int .i64 y7, .int .i64 y8] 30)))
  cases hso : addOk m1 zs x [y1, y2, y3, y4, y5, y6, y7, y8]
  · have OK := Lib.hid hso
    have LP : Hid ((addA m1 zs x [y1, y2, y3, y4, y5, y6, y7, y8]).length = 0 * 9) := Lib.hid (by unfold addA; rw [hso]; rfl)
    clear hso
    have bx0 := RB.out.c 0 (by simp)
    have bx1 := RB.out.c 1 (by simp)
    have bx2 := RB.out.c 2 (by simp)
    have bx3 := RB.out.c 3 (by simp)
    have bx4 := RB.out.c 4 (by simp)
    have bx5 := RB.out.c 5 (by simp)
    have bx6 := RB.out.c 6 (by simp)
    have bx7 := RB.out.c 7 (by simp)
    have bx8 := RB.out.c 8 (by simp)
    simp only [List.getD_cons_zero, List.getD_cons_succ] at bx0 bx1 bx2 bx3 bx4 bx5 bx6 bx7 bx8
    go_wp2_with fail
    refine (AddBox_ansT B1 m1 d1 zs x y0 y1 y2 y3 y4 y5 y6 y7 y8 (by omega) _ I1.out).mono ?_
    rw [OK.out]
    rintro e w2 ⟨A2, n2, c2, rfl, l2, r2, N2a⟩
    have s2 := N2a.le
    have I1 := Lib.hid (I1.out.new N2a)
    have RB := Lib.hid (RB.out.new N2a)
    have N2 := Lib.hid ((N1.out.alloc (.cells #[.int .i64 y0, .int .i64 y1, .int .i64 y2, .int .i64 y3, .int .i64 y4, .int .i64 y5, .int .i64 y6, .int .i64 y7, .int .i64 y8] 30)).trans N2a); clear N2a
    obtain rfl : 0 = n2 := by have := LP.out; omega
    have R2 := Lib.hid r2; clear l2 r2
    clear bx0 bx1 bx2 bx3 bx4 bx5 bx6 bx7 bx8
    have bx0 := RB.out.c 0 (by simp)
    have bx1 := RB.out.c 1 (by simp)
    have bx2 := RB.out.c 2 (by simp)
    have bx3 := RB.out.c 3 (by simp)
    have bx4 := RB.out.c 4 (by simp)
    have bx5 := RB.out.c 5 (by simp)
    have bx6 := RB.out.c 6 (by simp)
    have bx7 := RB.out.c 7 (by simp)
    have bx8 := RB.out.c 8 (by simp)
    simp only [List.getD_cons_zero, List.getD_cons_succ] at bx0 bx1 bx2 bx3 bx4 bx5 bx6 bx7 bx8
    go_wp2_with fail
    refine (SAddBox_ansT B1 m1 d1 zs x y0 y1 y2 y3 y4 y5 y6 y7 y8 (by omega) kd _ I1.out).mono ?_
    rw [OK.out]
    rintro e w3 ⟨A3, n3, c3, rfl, l3, r3, N3a⟩
    have s3 := N3a.le
    have I1 := Lib.hid (I1.out.new N3a)
    have RB := Lib.hid (RB.out.new N3a)
    have R2 := Lib.hid (R2.out.new N3a)
    have N3 := Lib.hid (N2.out.trans N3a); clear N3a
    obtain rfl : 0 = n3 := by have := LP.out; omega
    have R3 := Lib.hid r3; clear l3 r3
    clear bx0 bx1 bx2 bx3 bx4 bx5 bx6 bx7 bx8
    go_wp2_with fail
    refine (equalBoxes_same _ _ 0 _ _ _ (by omega) _ (Sts.of_res R2.out LP.out) (Sts.of_res R3.out LP.out)).mono ?_
    rintro e w4 ⟨rfl, N4a⟩
    have s4 := N4a.le
    have I1 := Lib.hid (I1.out.new N4a)
    have RB := Lib.hid (RB.out.new N4a)
    have R2 := Lib.hid (R2.out.new N4a)
    have R3 := Lib.hid (R3.out.new N4a)
    have N4 := Lib.hid (N3.out.trans N4a); clear N4a
    go_wp2_with fail
    refine (equalBoxes_same _ _ 0 _ _ _ (by omega) _ (Sts.of_res R2.out LP.out) (Sts.of_res R3.out LP.out)).mono ?_
    rintro e w5 ⟨rfl, N5a⟩
    have s5 := N5a.le
    have I1 := Lib.hid (I1.out.new N5a)
    have RB := Lib.hid (RB.out.new N5a)
    have R2 := Lib.hid (R2.out.new N5a)
    have R3 := Lib.hid (R3.out.new N5a)
    have N5 := Lib.hid (N4.out.trans N5a); clear N5a
    go_wp2
    go_ret
    exact ⟨by first | rfl | simp, N5.out⟩
  · have OK := Lib.hid hso
    have hn2 := hso
    unfold addOk at hn2
    rw [Bool.and_eq_true] at hn2
    obtain ⟨hv, a, rfl, ha⟩ := nodeOk_iff.1 hn2.1
    have m16 := (vtB_iff.1 hn2.2).1.2
    have vt2 := hn2.2
    rw [Int.toNat_natCast] at vt2
    have hA := added (bs := [y1, y2, y3, y4, y5, y6, y7, y8]) HL.out ha rfl
    have hAL : addA m1 zs (a : Int) [y1, y2, y3, y4, y5, y6, y7, y8] = addL m1 zs a [y1, y2, y3, y4, y5, y6, y7, y8] := by unfold addA; rw [if_pos hso, Int.toNat_natCast]
    obtain ⟨M, hM⟩ : ∃ M, m1 + 1 = M := ⟨_, rfl⟩
    have LP : Hid ((addA m1 zs (a : Int) [y1, y2, y3, y4, y5, y6, y7, y8]).length = M * 9) := Lib.hid (by rw [← hM]; exact addA_mul HL.out _ _ rfl hso)
    have M16 : M ≤ 16 := by omega
    have a0 : (0 : Int) ≤ (a : Int) := by omega
    have a1 : (a : Int) < (m1 : Int) := by omega
    have MI : (M : Int) = (m1 : Int) + 1 := by omega
    have HMI := Lib.hid MI
    clear MI xb
    have FS : ∀ i j, i < m1 → 1 ≤ j → j ≤ 5 → (addL m1 zs a [y1, y2, y3, y4, y5, y6, y7, y8]).getD (sh (en zs m1 a) i * 9 + j) 0 = zs.getD (i * 9 + j) 0 := fun i j hi h1 h2 => by
      by_cases hl : i < en zs m1 a
      · rw [sh_low hl]
        exact addL_low HL.out ha (by omega)
      · rw [sh_up (by omega), show (i + 1) * 9 + j = (i * 9 + j) + 9 by omega, addL_up HL.out ha rfl (by omega) (by omega), if_neg (by omega)]
    have NA := nat_add hv vt2 hA rfl FS 0 (by omega)
    rw [sh_low (show 0 < en zs m1 a by have := en_bd (zs := zs) ha; omega), ← hAL, hM] at NA
    rw [hM, ← hAL] at vt2
    have WA := Lib.hid (natW_at hv (show 0 < m1 by omega)); have WH := Lib.hid (natH_at hv (show 0 < m1 by omega)); have WO := Lib.hid (nodeOk_iff.2 ⟨hv, 0, rfl, show 0 < m1 by omega⟩)
    have XA := Lib.hid (natW_at vt2 (show 0 < M by omega)); have XH := Lib.hid (natH_at vt2 (show 0 < M by omega)); have XO := Lib.hid (nodeOk_iff.2 ⟨vt2, 0, rfl, show 0 < M by omega⟩)
    obtain ⟨na1, na2⟩ := NA
    generalize (natL zs m1 0).1 = p1 at *
    generalize (natL zs m1 0).2 = p2 at *
    generalize (natL (addA m1 zs (a : Int) [y1, y2, y3, y4, y5, y6, y7, y8]) M 0).1 = q1 at *
    generalize (natL (addA m1 zs (a : Int) [y1, y2, y3, y4, y5, y6, y7, y8]) M 0).2 = q2 at *
    have dn1 : decide (q1 ≥ p1) = true := decide_eq_true na1
    have dn2 : decide (q2 ≥ p2) = true := decide_eq_true na2
    have dn3 : decide (p1 ≤ q1) = true := decide_eq_true na1
    have dn4 : decide (p2 ≤ q2) = true := decide_eq_true na2
    clear hso hn2 vt2 hA hAL hv hM FS na1 na2
    have bx0 := RB.out.c 0 (by simp)
    have bx1 := RB.out.c 1 (by simp)
    have bx2 := RB.out.c 2 (by simp)
    have bx3 := RB.out.c 3 (by simp)
    have bx4 := RB.out.c 4 (by simp)
    have bx5 := RB.out.c 5 (by simp)
    have bx6 := RB.out.c 6 (by simp)
    have bx7 := RB.out.c 7 (by simp)
    have bx8 := RB.out.c 8 (by simp)
    simp only [List.getD_cons_zero, List.getD_cons_succ] at bx0 bx1 bx2 bx3 bx4 bx5 bx6 bx7 bx8
    go_wp2_with fail
    refine (AddBox_ansT B1 m1 d1 zs (a : Int) y0 y1 y2 y3 y4 y5 y6 y7 y8 (by omega) _ I1.out).mono ?_
    rw [OK.out]
    rintro e w2 ⟨A2, n2, c2, rfl, l2, r2, N2a⟩
    have s2 := N2a.le
    have I1 := Lib.hid (I1.out.new N2a)
    have RB := Lib.hid (RB.out.new N2a)
    have N2 := Lib.hid ((N1.out.alloc (.cells #[.int .i64 y0, .int .i64 y1, .int .i64 y2, .int .i64 y3, .int .i64 y4, .int .i64 y5, .int .i64 y6, .int .i64 y7, .int .i64 y8] 30)).trans N2a); clear N2a
    obtain rfl : M = n2 := by have := LP.out; omega
    have R2 := Lib.hid r2; clear l2 r2
    clear bx0 bx1 bx2 bx3 bx4 bx5 bx6 bx7 bx8
    have bx0 := RB.out.c 0 (by simp)
    have bx1 := RB.out.c 1 (by simp)
    have bx2 := RB.out.c 2 (by simp)
    have bx3 := RB.out.c 3 (by simp)
    have bx4 := RB.out.c 4 (by simp)
    have bx5 := RB.out.c 5 (by simp)
    have bx6 := RB.out.c 6 (by simp)
    have bx7 := RB.out.c 7 (by simp)
    have bx8 := RB.out.c 8 (by simp)
    simp only [List.getD_cons_zero, List.getD_cons_succ] at bx0 bx1 bx2 bx3 bx4 bx5 bx6 bx7 bx8
    go_wp2_with fail
    refine (SAddBox_ansT B1 m1 d1 zs (a : Int) y0 y1 y2 y3 y4 y5 y6 y7 y8 (by omega) kd _ I1.out).mono ?_
    rw [OK.out]
    rintro e w3 ⟨A3, n3, c3, rfl, l3, r3, N3a⟩
    have s3 := N3a.le
    have I1 := Lib.hid (I1.out.new N3a)
    have RB := Lib.hid (RB.out.new N3a)
    have R2 := Lib.hid (R2.out.new N3a)
    have N3 := Lib.hid (N2.out.trans N3a); clear N3a
    obtain rfl : M = n3 := by have := LP.out; omega
    have R3 := Lib.hid r3; clear l3 r3
    clear bx0 bx1 bx2 bx3 bx4 bx5 bx6 bx7 bx8
    go_wp2_with fail
    refine (equalBoxes_same _ _ M _ _ _ (by omega) _ (Sts.of_res R2.out LP.out) (Sts.of_res R3.out LP.out)).mono ?_
    rintro e w4 ⟨rfl, N4a⟩
    have s4 := N4a.le
    have I1 := Lib.hid (I1.out.new N4a)
    have RB := Lib.hid (RB.out.new N4a)
    have R2 := Lib.hid (R2.out.new N4a)
    have R3 := Lib.hid (R3.out.new N4a)
    have N4 := Lib.hid (N3.out.trans N4a); clear N4a
    go_wp2_with fail
    refine (NaturalSize_any B1 m1 d1 zs ((0 : Nat) : Int) (by omega) _ I1.out).mono ?_
    rw [WA.out, WH.out, WO.out]
    rintro e w5 ⟨rfl, N5a⟩
    have s5 := N5a.le
    have I1 := Lib.hid (I1.out.new N5a)
    have RB := Lib.hid (RB.out.new N5a)
    have R2 := Lib.hid (R2.out.new N5a)
    have R3 := Lib.hid (R3.out.new N5a)
    have N5 := Lib.hid (N4.out.trans N5a); clear N5a
    go_wp2_with fail
    refine (NaturalSize_any A2 M c2 _ ((0 : Nat) : Int) (by omega) _ (Sts.of_res R2.out LP.out)).mono ?_
    rw [XA.out, XH.out, XO.out]
    rintro e w6 ⟨rfl, N6a⟩
    have s6 := N6a.le
    have I1 := Lib.hid (I1.out.new N6a)
    have RB := Lib.hid (RB.out.new N6a)
    have R2 := Lib.hid (R2.out.new N6a)
    have R3 := Lib.hid (R3.out.new N6a)
    have N6 := Lib.hid (N5.out.trans N6a); clear N6a
    go_wp2
    go_ret
    exact ⟨by first | rfl | simp, N6.out⟩
end Go.Proofs.Ytobnjagmakhgpaa
