/- The law FnStyleBox, walked: another style changes one box, all but its place; the old style brings it back. Condition: the code can be read. -/
import Derived.Test.YtkaagpfgpacfcaaDrawEd
import Derived.Test.YtkaagpfgpacfcaaStyV
import Derived.Test.YtkaagpfgpacfcaaBoxQ
import Derived.Test.YtkaagpfgpacfcaaTreeE
import Derived.Deep.RegionHeld3
namespace Go.Proofs.Ytkaagpfgpacfcaa
open Go.RowKit

set_option maxRecDepth 100000 in
set_option maxHeartbeats 4000000 in
theorem lawStyleBox (A : Option Addr) (n c : Nat) (hn : n ≤ maxLen) (hnc : n ≤ c) (w : World) (hb : Bytes w A n) :
    Calls Try.prog 12 #[.slice A n c] w fun e w' => e = .returned (.bool true) ∧ New w w' := by
  have HB := Lib.hid hb; have HM := Lib.hid hn
  clear hb
  unfold maxLen at hn
  by_cases hbig : 1048576 < n
  · go_enter Try.func12, Try.ntmps12
    go_wp2
    go_ret
    exact ⟨rfl, by (repeat (first | exact New.refl _ | assumption | refine New.alloc ?_ _ | refine New.drew ?_ | refine New.drewN ?_ _ | refine New.setCell ?_ (by first | omega | (simp; omega) | (simp; done)) _ | refine New.trans ?_ (by assumption)))⟩
  have hm : (n : Int) ≤ 1048576 := by omega
  have hm0 : (0 : Int) ≤ (n : Int) := by omega
  go_enter Try.func12, Try.ntmps12
  go_wp2_with fail
  refine (DrawStyleBox_any A n c HM.out hnc _ HB.out).mono ?_
  rintro e w1 ⟨B1, m1, d1, zs, x, y0, y1, y2, y3, y4, y5, y6, y7, y8, rfl, I1, l1, kd, xb, N1a⟩
  have s1 := N1a.le
  have N1 := Lib.hid ((New.refl w).trans N1a); clear N1a
  replace I1 := I1 _ (Chg.refl _ _ _)
  have HL := Lib.hid I1.len
  have RB := Lib.hid (Row.oneBox w1 y0 y1 y2 y3 y4 y5 y6 y7 y8 35)
  have sb := RB.out.lt
  replace I1 := Lib.hid (I1.new ((New.refl _).alloc (.cells #[.int .i64 y0, .int .i64 y1, .int .i64 y2, .int .i64 y3, .int .i64 y4, .int .i64 y5, .int .i64 y6, .int .i64 y7, .int .i64 y8] 35)))
  cases hso : styOk m1 zs x y1 y2 y3 y4 y5 y6 y7 y8
  · have OK := Lib.hid hso
    have LP : Hid ((styA m1 zs x y1 y2 y3 y4 y5 y6 y7 y8).length = 0 * 9) := Lib.hid (by unfold styA; rw [hso]; rfl)
    clear hso
    have bx0 := RB.out.c 0 (by simp)
    have bx1 := RB.out.c 1 (by simp)
    have bx2 := RB.out.c 2 (by simp)
    have bx3 := RB.out.c 3 (by simp)
    have bx4 := RB.out.c 4 (by simp)
    have bx5 := RB.out.c 5 (by simp)
    have bx6 := RB.out.c 6 (by simp)
    have bx7 := RB.out.c 7 (by simp)
    have bx8 := RB.out.c 8 (by simp)
    simp only [List.getD_cons_zero, List.getD_cons_succ] at bx0 bx1 bx2 bx3 bx4 bx5 bx6 bx7 bx8
    go_wp2_with fail
    refine (StyleBox_ansT B1 m1 d1 zs x y0 y1 y2 y3 y4 y5 y6 y7 y8 (by omega) _ I1.out).mono ?_
    rw [OK.out]
    rintro e w2 ⟨A2, n2, c2, rfl, l2, r2, N2a⟩
    have s2 := N2a.le
    have I1 := Lib.hid (I1.out.new N2a)
    have RB := Lib.hid (RB.out.new N2a)
    have N2 := Lib.hid ((N1.out.alloc (.cells #[.int .i64 y0, .int .i64 y1, .int .i64 y2, .int .i64 y3, .int .i64 y4, .int .i64 y5, .int .i64 y6, .int .i64 y7, .int .i64 y8] 35)).trans N2a); clear N2a
    obtain rfl : 0 = n2 := by have := LP.out; omega
    have R2 := Lib.hid r2; clear l2 r2
    clear bx0 bx1 bx2 bx3 bx4 bx5 bx6 bx7 bx8
    have bx0 := RB.out.c 0 (by simp)
    have bx1 := RB.out.c 1 (by simp)
    have bx2 := RB.out.c 2 (by simp)
    have bx3 := RB.out.c 3 (by simp)
    have bx4 := RB.out.c 4 (by simp)
    have bx5 := RB.out.c 5 (by simp)
    have bx6 := RB.out.c 6 (by simp)
    have bx7 := RB.out.c 7 (by simp)
    have bx8 := RB.out.c 8 (by simp)
    simp only [List.getD_cons_zero, List.getD_cons_succ] at bx0 bx1 bx2 bx3 bx4 bx5 bx6 bx7 bx8
    go_wp2_with fail
    refine (SStyleBox_ansT B1 m1 d1 zs x y0 y1 y2 y3 y4 y5 y6 y7 y8 (by omega) _ I1.out).mono ?_
    rw [OK.out]
    rintro e w3 ⟨A3, n3, c3, rfl, l3, r3, N3a⟩
    have s3 := N3a.le
    have I1 := Lib.hid (I1.out.new N3a)
    have RB := Lib.hid (RB.out.new N3a)
    have R2 := Lib.hid (R2.out.new N3a)
    have N3 := Lib.hid (N2.out.trans N3a); clear N3a
    obtain rfl : 0 = n3 := by have := LP.out; omega
    have R3 := Lib.hid r3; clear l3 r3
    clear bx0 bx1 bx2 bx3 bx4 bx5 bx6 bx7 bx8
    go_wp2_with fail
    refine (equalBoxes_same _ _ 0 _ _ _ (by omega) _ (Sts.of_res R2.out LP.out) (Sts.of_res R3.out LP.out)).mono ?_
    rintro e w4 ⟨rfl, N4a⟩
    have s4 := N4a.le
    have I1 := Lib.hid (I1.out.new N4a)
    have RB := Lib.hid (RB.out.new N4a)
    have R2 := Lib.hid (R2.out.new N4a)
    have R3 := Lib.hid (R3.out.new N4a)
    have N4 := Lib.hid (N3.out.trans N4a); clear N4a
    go_wp2_with fail
    refine (equalBoxes_same _ _ 0 _ _ _ (by omega) _ (Sts.of_res R2.out LP.out) (Sts.of_res R3.out LP.out)).mono ?_
    rintro e w5 ⟨rfl, N5a⟩
    have s5 := N5a.le
    have I1 := Lib.hid (I1.out.new N5a)
    have RB := Lib.hid (RB.out.new N5a)
    have R2 := Lib.hid (R2.out.new N5a)
    have R3 := Lib.hid (R3.out.new N5a)
    have N5 := Lib.hid (N4.out.trans N5a); clear N5a
    go_wp2
    go_ret
    exact ⟨by first | rfl | simp, N5.out⟩
  · have OK := Lib.hid hso
    obtain ⟨hn1, _⟩ : nodeOk m1 zs x = true ∧ True := ⟨by unfold styOk at hso; rw [Bool.and_eq_true] at hso; exact hso.1, trivial⟩
    obtain ⟨hv, a, rfl, ha⟩ := nodeOk_iff.1 hn1
    have m16 := (vtB_iff.1 hv).1.2
    have es := styA_yes hso
    have ob := styOk_back hso hv HL.out ha
    have ab := styA_back hso hv HL.out ha
    have vs := (styOk_valid hso).2
    have sk := sty_knd (p := par zs a) (b1 := y1) (b2 := y2) (b3 := y3) (b4 := y4) (b5 := y5) (b6 := y6) (b7 := y7) (b8 := y8) HL.out ha
    have se := fun i (hi : i < m1 * 9) (h : i / 9 ≠ a) => sty_else (p := par zs a) (b1 := y1) (b2 := y2) (b3 := y3) (b4 := y4) (b5 := y5) (b6 := y6) (b7 := y7) (b8 := y8) HL.out hi h
    have sp := fun i (hi : i < m1) => sty_parent (a := a) (b1 := y1) (b2 := y2) (b3 := y3) (b4 := y4) (b5 := y5) (b6 := y6) (b7 := y7) (b8 := y8) HL.out hi
    have ll := (styL_len zs a (par zs a) y1 y2 y3 y4 y5 y6 y7 y8).trans HL.out
    obtain ⟨L, hL⟩ : ∃ L, styL zs a (par zs a) y1 y2 y3 y4 y5 y6 y7 y8 = L := ⟨_, rfl⟩
    rw [hL] at es ob ab vs sk ll
    simp only [hL] at se sp
    have ES := Lib.hid es; have OKB := Lib.hid ob; have ASB := Lib.hid ab; have VS := Lib.hid vs; have SK := Lib.hid sk; have SE := Lib.hid se; have SP := Lib.hid sp; have LL := Lib.hid ll
    have LP : Hid ((styA m1 zs (a : Int) y1 y2 y3 y4 y5 y6 y7 y8).length = m1 * 9) := Lib.hid (by rw [ES.out]; exact LL.out)
    have LPB : Hid ((styA m1 L (a : Int) (zs.getD (a * 9 + 1) 0) (zs.getD (a * 9 + 2) 0) (zs.getD (a * 9 + 3) 0) (zs.getD (a * 9 + 4) 0) (zs.getD (a * 9 + 5) 0) (zs.getD (a * 9 + 6) 0) (zs.getD (a * 9 + 7) 0) (zs.getD (a * 9 + 8) 0)).length = m1 * 9) := Lib.hid (by rw [ASB.out]; exact HL.out)
    have a0 : (0 : Int) ≤ (a : Int) := by omega
    have a1 : (a : Int) < (m1 : Int) := by omega
    have da1 : decide (m1 ≤ a) = false := decide_eq_false (by omega)
    have da2 : decide ((m1 : Int) ≤ (a : Int)) = false := decide_eq_false (by omega)
    have da3 : decide ((a : Int) < 0) = false := decide_eq_false (by omega)
    clear hso hn1 hv xb es ob ab vs sk se sp ll hL
    have bx0 := RB.out.c 0 (by simp)
    have bx1 := RB.out.c 1 (by simp)
    have bx2 := RB.out.c 2 (by simp)
    have bx3 := RB.out.c 3 (by simp)
    have bx4 := RB.out.c 4 (by simp)
    have bx5 := RB.out.c 5 (by simp)
    have bx6 := RB.out.c 6 (by simp)
    have bx7 := RB.out.c 7 (by simp)
    have bx8 := RB.out.c 8 (by simp)
    simp only [List.getD_cons_zero, List.getD_cons_succ] at bx0 bx1 bx2 bx3 bx4 bx5 bx6 bx7 bx8
    go_wp2_with fail
    refine (StyleBox_ansT B1 m1 d1 zs (a : Int) y0 y1 y2 y3 y4 y5 y6 y7 y8 (by omega) _ I1.out).mono ?_
    rw [OK.out]
    rintro e w2 ⟨A2, n2, c2, rfl, l2, r2, N2a⟩
    have s2 := N2a.le
    have I1 := Lib.hid (I1.out.new N2a)
    have RB := Lib.hid (RB.out.new N2a)
    have N2 := Lib.hid ((N1.out.alloc (.cells #[.int .i64 y0, .int .i64 y1, .int .i64 y2, .int .i64 y3, .int .i64 y4, .int .i64 y5, .int .i64 y6, .int .i64 y7, .int .i64 y8] 35)).trans N2a); clear N2a
    obtain rfl : m1 = n2 := by have := LP.out; omega
    have R2 := Lib.hid r2; clear l2 r2
    clear bx0 bx1 bx2 bx3 bx4 bx5 bx6 bx7 bx8
    have bx0 := RB.out.c 0 (by simp)
    have bx1 := RB.out.c 1 (by simp)
    have bx2 := RB.out.c 2 (by simp)
    have bx3 := RB.out.c 3 (by simp)
    have bx4 := RB.out.c 4 (by simp)
    have bx5 := RB.out.c 5 (by simp)
    have bx6 := RB.out.c 6 (by simp)
    have bx7 := RB.out.c 7 (by simp)
    have bx8 := RB.out.c 8 (by simp)
    simp only [List.getD_cons_zero, List.getD_cons_succ] at bx0 bx1 bx2 bx3 bx4 bx5 bx6 bx7 bx8
    go_wp2_with fail
    refine (SStyleBox_ansT B1 m1 d1 zs (a : Int) y0 y1 y2 y3 y4 y5 y6 y7 y8 (by omega) _ I1.out).mono ?_
    rw [OK.out]
    rintro e w3 ⟨A3, n3, c3, rfl, l3, r3, N3a⟩
    have s3 := N3a.le
    have I1 := Lib.hid (I1.out.new N3a)
    have RB := Lib.hid (RB.out.new N3a)
    have R2 := Lib.hid (R2.out.new N3a)
    have N3 := Lib.hid (N2.out.trans N3a); clear N3a
    obtain rfl : m1 = n3 := by have := LP.out; omega
    have R3 := Lib.hid r3; clear l3 r3
    clear bx0 bx1 bx2 bx3 bx4 bx5 bx6 bx7 bx8
    go_wp2_with fail
    refine (equalBoxes_same _ _ m1 _ _ _ (by omega) _ (Sts.of_res R2.out LP.out) (Sts.of_res R3.out LP.out)).mono ?_
    rintro e w4 ⟨rfl, N4a⟩
    have s4 := N4a.le
    have I1 := Lib.hid (I1.out.new N4a)
    have RB := Lib.hid (RB.out.new N4a)
    have R2 := Lib.hid (R2.out.new N4a)
    have R3 := Lib.hid (R3.out.new N4a)
    have N4 := Lib.hid (N3.out.trans N4a); clear N4a
    have NN := Lib.hid N4.out
    replace R2 := Lib.hid (ES.out ▸ R2.out)
    obtain ⟨b, off, rfl, hb, hc⟩ := I1.out.at_ (by omega)
    obtain ⟨b', off', rfl, hb', hc'⟩ := (Sts.of_res R2.out LL.out).at_ (by omega)
    have HC := Lib.hid hc; have HC' := Lib.hid hc'
    clear hc hc' hb hb'
    go_wp2
    go_loopw [10] (fun i wr => ∃ j : Nat, j ≤ m1 ∧ i = .int .i64 j ∧ ∃ q, wr = w4.drewN q) (fun i _ => m1 - (intOf i).toNat)
    case atStart => exact ⟨0, Nat.zero_le _, rfl, 0, rfl⟩
    case round =>
      obtain ⟨j, hj, rfl, q, rfl⟩ := hrel
      have j0 : (0 : Int) ≤ (j : Int) := by omega
      by_cases hlt : j < m1
      · have j1 : (j : Int) < (m1 : Int) := by omega
        have jn : decide (m1 ≤ j) = false := decide_eq_false (by omega)
        have jn2 : decide ((m1 : Int) ≤ (j : Int)) = false := decide_eq_false (by omega)
        have t0 : w4.cell? ⟨b, off + j * 9, none⟩ = some (.int .i64 (zs.getD (j * 9) 0)) := HC.out (j * 9) (by omega)
        have o0 : w4.cell? ⟨b', off' + j * 9, none⟩ = some (.int .i64 (zs.getD (j * 9) 0)) := by rw [← SP.out j hlt]; exact HC'.out (j * 9) (by omega)
        by_cases hja : j = a
        · subst hja
          generalize zs.getD (j * 9) 0 = u0 at t0 o0
          go_wp2
          go_quiet (fail)
          go_wp2
          go_roundw
          case rel => exact ⟨j + 1, by omega, by go_num, _, rfl⟩
          case measure => simp [intOf]; omega
        · have jb : ((j : Int) == (a : Int)) = false := by simp; omega
          have jb2 : (j == a) = false := by simp; omega
          have jb3 : (j != a) = true := by simp; omega
          have jb4 : ((j : Int) != (a : Int)) = true := by simp; omega
          have t1 : w4.cell? ⟨b, off + j * 9 + 1, none⟩ = some (.int .i64 (zs.getD (j * 9 + 1) 0)) := HC.out (j * 9 + 1) (by omega)
          have o1 : w4.cell? ⟨b', off' + j * 9 + 1, none⟩ = some (.int .i64 (zs.getD (j * 9 + 1) 0)) := by rw [← SE.out (j * 9 + 1) (by omega) (by omega)]; exact HC'.out (j * 9 + 1) (by omega)
          have t2 : w4.cell? ⟨b, off + j * 9 + 2, none⟩ = some (.int .i64 (zs.getD (j * 9 + 2) 0)) := HC.out (j * 9 + 2) (by omega)
          have o2 : w4.cell? ⟨b', off' + j * 9 + 2, none⟩ = some (.int .i64 (zs.getD (j * 9 + 2) 0)) := by rw [← SE.out (j * 9 + 2) (by omega) (by omega)]; exact HC'.out (j * 9 + 2) (by omega)
          have t3 : w4.cell? ⟨b, off + j * 9 + 3, none⟩ = some (.int .i64 (zs.getD (j * 9 + 3) 0)) := HC.out (j * 9 + 3) (by omega)
          have o3 : w4.cell? ⟨b', off' + j * 9 + 3, none⟩ = some (.int .i64 (zs.getD (j * 9 + 3) 0)) := by rw [← SE.out (j * 9 + 3) (by omega) (by omega)]; exact HC'.out (j * 9 + 3) (by omega)
          have t4 : w4.cell? ⟨b, off + j * 9 + 4, none⟩ = some (.int .i64 (zs.getD (j * 9 + 4) 0)) := HC.out (j * 9 + 4) (by omega)
          have o4 : w4.cell? ⟨b', off' + j * 9 + 4, none⟩ = some (.int .i64 (zs.getD (j * 9 + 4) 0)) := by rw [← SE.out (j * 9 + 4) (by omega) (by omega)]; exact HC'.out (j * 9 + 4) (by omega)
          have t5 : w4.cell? ⟨b, off + j * 9 + 5, none⟩ = some (.int .i64 (zs.getD (j * 9 + 5) 0)) := HC.out (j * 9 + 5) (by omega)
          have o5 : w4.cell? ⟨b', off' + j * 9 + 5, none⟩ = some (.int .i64 (zs.getD (j * 9 + 5) 0)) := by rw [← SE.out (j * 9 + 5) (by omega) (by omega)]; exact HC'.out (j * 9 + 5) (by omega)
          have t6 : w4.cell? ⟨b, off + j * 9 + 6, none⟩ = some (.int .i64 (zs.getD (j * 9 + 6) 0)) := HC.out (j * 9 + 6) (by omega)
          have o6 : w4.cell? ⟨b', off' + j * 9 + 6, none⟩ = some (.int .i64 (zs.getD (j * 9 + 6) 0)) := by rw [← SE.out (j * 9 + 6) (by omega) (by omega)]; exact HC'.out (j * 9 + 6) (by omega)
          have t7 : w4.cell? ⟨b, off + j * 9 + 7, none⟩ = some (.int .i64 (zs.getD (j * 9 + 7) 0)) := HC.out (j * 9 + 7) (by omega)
          have o7 : w4.cell? ⟨b', off' + j * 9 + 7, none⟩ = some (.int .i64 (zs.getD (j * 9 + 7) 0)) := by rw [← SE.out (j * 9 + 7) (by omega) (by omega)]; exact HC'.out (j * 9 + 7) (by omega)
          have t8 : w4.cell? ⟨b, off + j * 9 + 8, none⟩ = some (.int .i64 (zs.getD (j * 9 + 8) 0)) := HC.out (j * 9 + 8) (by omega)
          have o8 : w4.cell? ⟨b', off' + j * 9 + 8, none⟩ = some (.int .i64 (zs.getD (j * 9 + 8) 0)) := by rw [← SE.out (j * 9 + 8) (by omega) (by omega)]; exact HC'.out (j * 9 + 8) (by omega)
          generalize zs.getD (j * 9) 0 = u0 at t0 o0
          generalize zs.getD (j * 9 + 1) 0 = u1 at t1 o1
          generalize zs.getD (j * 9 + 2) 0 = u2 at t2 o2
          generalize zs.getD (j * 9 + 3) 0 = u3 at t3 o3
          generalize zs.getD (j * 9 + 4) 0 = u4 at t4 o4
          generalize zs.getD (j * 9 + 5) 0 = u5 at t5 o5
          generalize zs.getD (j * 9 + 6) 0 = u6 at t6 o6
          generalize zs.getD (j * 9 + 7) 0 = u7 at t7 o7
          generalize zs.getD (j * 9 + 8) 0 = u8 at t8 o8
          go_wp2
          go_quiet (fail)
          go_wp2
          go_roundw
          case rel => exact ⟨j + 1, by omega, by go_num, _, rfl⟩
          case measure => simp [intOf]; omega
      · obtain rfl : m1 = j := by omega
        have DQ : New w4 (w4.drewN q) := (New.refl w4).drewN q
        have I1 := Lib.hid (I1.out.new DQ)
        have RB := Lib.hid (RB.out.new DQ)
        have R2 := Lib.hid (R2.out.new DQ)
        have R3 := Lib.hid (R3.out.new DQ)
        have NQ := Lib.hid (NN.out.trans DQ)
        have t0 : (w4.drewN q).cell? ⟨b, off + a * 9, none⟩ = some (.int .i64 (zs.getD (a * 9) 0)) := HC.out (a * 9) (by omega)
        have t1 : (w4.drewN q).cell? ⟨b, off + a * 9 + 1, none⟩ = some (.int .i64 (zs.getD (a * 9 + 1) 0)) := HC.out (a * 9 + 1) (by omega)
        have t2 : (w4.drewN q).cell? ⟨b, off + a * 9 + 2, none⟩ = some (.int .i64 (zs.getD (a * 9 + 2) 0)) := HC.out (a * 9 + 2) (by omega)
        have t3 : (w4.drewN q).cell? ⟨b, off + a * 9 + 3, none⟩ = some (.int .i64 (zs.getD (a * 9 + 3) 0)) := HC.out (a * 9 + 3) (by omega)
        have t4 : (w4.drewN q).cell? ⟨b, off + a * 9 + 4, none⟩ = some (.int .i64 (zs.getD (a * 9 + 4) 0)) := HC.out (a * 9 + 4) (by omega)
        have t5 : (w4.drewN q).cell? ⟨b, off + a * 9 + 5, none⟩ = some (.int .i64 (zs.getD (a * 9 + 5) 0)) := HC.out (a * 9 + 5) (by omega)
        have t6 : (w4.drewN q).cell? ⟨b, off + a * 9 + 6, none⟩ = some (.int .i64 (zs.getD (a * 9 + 6) 0)) := HC.out (a * 9 + 6) (by omega)
        have t7 : (w4.drewN q).cell? ⟨b, off + a * 9 + 7, none⟩ = some (.int .i64 (zs.getD (a * 9 + 7) 0)) := HC.out (a * 9 + 7) (by omega)
        have t8 : (w4.drewN q).cell? ⟨b, off + a * 9 + 8, none⟩ = some (.int .i64 (zs.getD (a * 9 + 8) 0)) := HC.out (a * 9 + 8) (by omega)
        clear DQ
        go_wp2_with fail
        refine (StyleBox_ansT (some ⟨b', off', none⟩) m1 c2 L (a : Int) (zs.getD (a * 9) 0) (zs.getD (a * 9 + 1) 0) (zs.getD (a * 9 + 2) 0) (zs.getD (a * 9 + 3) 0) (zs.getD (a * 9 + 4) 0) (zs.getD (a * 9 + 5) 0) (zs.getD (a * 9 + 6) 0) (zs.getD (a * 9 + 7) 0) (zs.getD (a * 9 + 8) 0) (by omega) _ (Sts.of_res R2.out LL.out)).mono ?_
        rw [OKB.out]
        rintro e w5 ⟨A5, n5, c5, rfl, l5, r5, N5a⟩
        have s5 := N5a.le
        have I1 := Lib.hid (I1.out.new N5a)
        have RB := Lib.hid (RB.out.new N5a)
        have R2 := Lib.hid (R2.out.new N5a)
        have R3 := Lib.hid (R3.out.new N5a)
        have N5 := Lib.hid (NQ.out.trans N5a); clear N5a
        obtain rfl : m1 = n5 := by have := LPB.out; omega
        have R5 := Lib.hid r5; clear l5 r5
        obtain ⟨bz, offz, ez, hbz, hcz⟩ := (Sts.of_res R2.out LL.out).at_ (by omega)
        injection ez with ez
        injection ez with ez1 ez2
        subst ez1 ez2
        have kq := hcz (a * 9 + 1) (by omega)
        rw [SK.out, ← Nat.add_assoc] at kq
        have kb := RB.out.c 1 (by simp)
        simp only [List.getD_cons_zero, List.getD_cons_succ] at kb
        have K1 : w5.drew.cell? ⟨b', off' + a * 9 + 1, none⟩ = some (.int .i64 y1) ∧ w5.drew.cell? ⟨w1.heap.size, 1, none⟩ = some (.int .i64 y1) := ⟨kq, kb⟩
        have K1h := Lib.hid K1
        have hz1 : b' < w5.drew.heap.size := hbz
        have hz2 : w1.heap.size < w5.drew.heap.size := RB.out.lt
        have KF := Lib.hid (fun (V : World) (h : New w5.drew V) => (⟨(h.cells _ _ hz1).trans K1h.out.1, (h.cells _ _ hz2).trans K1h.out.2⟩ : V.cell? ⟨b', off' + a * 9 + 1, none⟩ = some (.int .i64 y1) ∧ V.cell? ⟨w1.heap.size, 1, none⟩ = some (.int .i64 y1)))
        have ND := Lib.hid N5.out.drew
        have SB := Lib.hid ((Sts.of_res R5.out LPB.out).new (New.refl w5).drew)
        have I9 := Lib.hid (I1.out.new (New.refl w5).drew)
        have SL := Lib.hid ((Sts.of_res R2.out LL.out).new (New.refl w5).drew)
        clear hcz kq kb
        go_wp2
        go_region_held3 (fun w' => w'.cell? ⟨b', off' + a * 9 + 1, none⟩ = some (.int .i64 y1) ∧ w'.cell? ⟨w1.heap.size, 1, none⟩ = some (.int .i64 y1))
          (first | exact K1 | exact K2 | exact K3 | assumption)
          (first
            | (go_at_call 41; refine (equalBoxes_same A5 _ m1 c5 d1 zs (by omega) _ (by have h := SB.out; rw [ASB.out] at h; exact h) I9.out).mono ?_; rintro e wa ⟨rfl, Na⟩; (have K2 := KF.out wa Na); (have SL := Lib.hid (SL.out.new Na)); (have Na := Lib.hid Na))
            | (go_at_call 42; refine (ValidTree_any _ m1 c2 L (by omega) _ SL.out).mono ?_; rw [VS.out]; rintro e wb ⟨rfl, Nb⟩; (have K3 := KF.out wb (Na.out.trans Nb)); (have Nb := Lib.hid (Na.out.trans Nb))))
        go_wp2
        go_ret
        exact ⟨by first | rfl | simp, ND.out.trans Nb.out⟩
end Go.Proofs.Ytkaagpfgpacfcaa
