/- The law FnLayoutRootStyle, walked: a box in a box that is not around the styled one, and keeps its rectangle, keeps its own. Condition: the code can be read. -/
import Derived.Test.YtobnjagmakhgpaaDrawEd
import Derived.Test.YtobnjagmakhgpaaStyV
import Derived.Test.YtobnjagmakhgpaaStyN
import Derived.Test.YtobnjagmakhgpaaBoxQ
import Derived.Test.YtobnjagmakhgpaaZF
import Derived.Test.YtobnjagmakhgpaaTreeR
import Derived.Test.YtobnjagmakhgpaaZW
import Derived.Test.YtobnjagmakhgpaaYE
import Derived.Test.YtobnjagmakhgpaaZS
import Derived.Deep.RegionHeld3
namespace Go.Proofs.Ytobnjagmakhgpaa
open Go.RowKit

theorem eqr_rect (y0 y1 y2 y3 z0 z1 z2 z3 : Int) (w : World) : (binOp .eql 39 (.agg #[.int .i64 y0, .int .i64 y1, .int .i64 y2, .int .i64 y3]) (.agg #[.int .i64 z0, .int .i64 z1, .int .i64 z2, .int .i64 z3])).run Try.prog w = Result.ok (.bool (decide (y0 = z0 ∧ y1 = z1 ∧ y2 = z2 ∧ y3 = z3))) w := by
  by_cases e0 : y0 = z0
  · by_cases e1 : y1 = z1
    · by_cases e2 : y2 = z2
      · by_cases e3 : y3 = z3
        · simp [go_sem, e0, e1, e2, e3]
        · simp [go_sem, e0, e1, e2, e3]
      · simp [go_sem, e0, e1, e2]
    · simp [go_sem, e0, e1]
  · simp [go_sem, e0]
set_option maxRecDepth 100000 in
set_option maxHeartbeats 16000000 in
theorem lawLayoutRootStyle (A : Option Addr) (n c : Nat) (hn : n ≤ maxLen) (hnc : n ≤ c) (w : World) (hb : Bytes w A n) :
    Calls Try.prog 7 #[.slice A n c] w fun e w' => e = .returned (.bool true) ∧ New w w' := by
  have HB := Lib.hid hb; have HM := Lib.hid hn
  clear hb
  unfold maxLen at hn
  by_cases hbig : 1048576 < n
  · go_enter Try.func7, Try.ntmps7
    go_wp2
    go_ret
    exact ⟨rfl, by (repeat (first | exact New.refl _ | assumption | refine New.alloc ?_ _ | refine New.drew ?_ | refine New.drewN ?_ _ | refine New.setCell ?_ (by first | omega | (simp; omega) | (simp; done)) _ | refine New.trans ?_ (by assumption)))⟩
  have hm : (n : Int) ≤ 1048576 := by omega
  have hm0 : (0 : Int) ≤ (n : Int) := by omega
  go_enter Try.func7, Try.ntmps7
  go_wp2_with fail
  refine (DrawStyleBox_any A n c HM.out hnc _ HB.out).mono ?_
  rintro e w1 ⟨B1, m1, d1, zs, x, y0, y1, y2, y3, y4, y5, y6, y7, y8, rfl, I1, l1, kd, xb, N1a⟩
  have s1 := N1a.le
  have N1 := Lib.hid ((New.refl w).trans N1a); clear N1a
  replace I1 := I1 _ (Chg.refl _ _ _)
  have HL := Lib.hid I1.len
  have RB := Lib.hid (Row.oneBox w1 y0 y1 y2 y3 y4 y5 y6 y7 y8 30)
  have sb := RB.out.lt
  replace I1 := Lib.hid (I1.new ((New.refl _).alloc (.cells #[.int .i64 y0, .int .i64 y1, .int .i64 y2, .int .i64 y3, .int .i64 y4, .int .i64 y5, .int .i64 y6, .int .i64 y7, .int .i64 y8] 30)))
  cases hso : styOk m1 zs x y1 y2 y3 y4 y5 y6 y7 y8
  · have OK := Lib.hid hso
    have LP : Hid ((styA m1 zs x y1 y2 y3 y4 y5 y6 y7 y8).length = 0 * 9) := Lib.hid (by unfold styA; rw [hso]; rfl)
    clear hso
    have bx0 := RB.out.c 0 (by simp)
    have bx1 := RB.out.c 1 (by simp)
    have bx2 := RB.out.c 2 (by simp)
    have bx3 := RB.out.c 3 (by simp)
    have bx4 := RB.out.c 4 (by simp)
    have bx5 := RB.out.c 5 (by simp)
    have bx6 := RB.out.c 6 (by simp)
    have bx7 := RB.out.c 7 (by simp)
    have bx8 := RB.out.c 8 (by simp)
    simp only [List.getD_cons_zero, List.getD_cons_succ] at bx0 bx1 bx2 bx3 bx4 bx5 bx6 bx7 bx8
    go_wp2_with fail
    refine (StyleBox_ansT B1 m1 d1 zs x y0 y1 y2 y3 y4 y5 y6 y7 y8 (by omega) _ I1.out).mono ?_
    rw [OK.out]
    rintro e w2 ⟨A2, n2, c2, rfl, l2, r2, N2a⟩
    have s2 := N2a.le
    have I1 := Lib.hid (I1.out.new N2a)
    have RB := Lib.hid (RB.out.new N2a)
    have N2 := Lib.hid ((N1.out.alloc (.cells #[.int .i64 y0, .int .i64 y1, .int .i64 y2, .int .i64 y3, .int .i64 y4, .int .i64 y5, .int .i64 y6, .int .i64 y7, .int .i64 y8] 30)).trans N2a); clear N2a
    obtain rfl : 0 = n2 := by have := LP.out; omega
    have R2 := Lib.hid r2; clear l2 r2
    clear bx0 bx1 bx2 bx3 bx4 bx5 bx6 bx7 bx8
    have bx0 := RB.out.c 0 (by simp)
    have bx1 := RB.out.c 1 (by simp)
    have bx2 := RB.out.c 2 (by simp)
    have bx3 := RB.out.c 3 (by simp)
    have bx4 := RB.out.c 4 (by simp)
    have bx5 := RB.out.c 5 (by simp)
    have bx6 := RB.out.c 6 (by simp)
    have bx7 := RB.out.c 7 (by simp)
    have bx8 := RB.out.c 8 (by simp)
    simp only [List.getD_cons_zero, List.getD_cons_succ] at bx0 bx1 bx2 bx3 bx4 bx5 bx6 bx7 bx8
    go_wp2_with fail
    refine (SStyleBox_ansT B1 m1 d1 zs x y0 y1 y2 y3 y4 y5 y6 y7 y8 (by omega) _ I1.out).mono ?_
    rw [OK.out]
    rintro e w3 ⟨A3, n3, c3, rfl, l3, r3, N3a⟩
    have s3 := N3a.le
    have I1 := Lib.hid (I1.out.new N3a)
    have RB := Lib.hid (RB.out.new N3a)
    have R2 := Lib.hid (R2.out.new N3a)
    have N3 := Lib.hid (N2.out.trans N3a); clear N3a
    obtain rfl : 0 = n3 := by have := LP.out; omega
    have R3 := Lib.hid r3; clear l3 r3
    clear bx0 bx1 bx2 bx3 bx4 bx5 bx6 bx7 bx8
    go_wp2_with fail
    refine (equalBoxes_same _ _ 0 _ _ _ (by omega) _ (Sts.of_res R2.out LP.out) (Sts.of_res R3.out LP.out)).mono ?_
    rintro e w4 ⟨rfl, N4a⟩
    have s4 := N4a.le
    have I1 := Lib.hid (I1.out.new N4a)
    have RB := Lib.hid (RB.out.new N4a)
    have R2 := Lib.hid (R2.out.new N4a)
    have R3 := Lib.hid (R3.out.new N4a)
    have N4 := Lib.hid (N3.out.trans N4a); clear N4a
    go_wp2_with fail
    refine (equalBoxes_same _ _ 0 _ _ _ (by omega) _ (Sts.of_res R2.out LP.out) (Sts.of_res R3.out LP.out)).mono ?_
    rintro e w5 ⟨rfl, N5a⟩
    have s5 := N5a.le
    have I1 := Lib.hid (I1.out.new N5a)
    have RB := Lib.hid (RB.out.new N5a)
    have R2 := Lib.hid (R2.out.new N5a)
    have R3 := Lib.hid (R3.out.new N5a)
    have N5 := Lib.hid (N4.out.trans N5a); clear N5a
    go_wp2
    go_ret
    exact ⟨by first | rfl | simp, N5.out⟩
  · have OK := Lib.hid hso
    obtain ⟨hn1, _⟩ : nodeOk m1 zs x = true ∧ True := ⟨by unfold styOk at hso; rw [Bool.and_eq_true] at hso; exact hso.1, trivial⟩
    obtain ⟨hv, a, rfl, ha⟩ := nodeOk_iff.1 hn1
    have m16 := (vtB_iff.1 hv).1.2
    have es := styA_yes hso
    have vs := (styOk_valid hso).2
    have se := fun i (hi : i < m1 * 9) (h : i / 9 ≠ a) => sty_else (p := par zs a) (b1 := y1) (b2 := y2) (b3 := y3) (b4 := y4) (b5 := y5) (b6 := y6) (b7 := y7) (b8 := y8) HL.out hi h
    have sp := fun i (hi : i < m1) => sty_parent (a := a) (b1 := y1) (b2 := y2) (b3 := y3) (b4 := y4) (b5 := y5) (b6 := y6) (b7 := y7) (b8 := y8) HL.out hi
    have ll := (styL_len zs a (par zs a) y1 y2 y3 y4 y5 y6 y7 y8).trans HL.out
    obtain ⟨L, hL⟩ : ∃ L, styL zs a (par zs a) y1 y2 y3 y4 y5 y6 y7 y8 = L := ⟨_, rfl⟩
    rw [hL] at es vs ll
    simp only [hL] at se sp
    have ES := Lib.hid es; have LL := Lib.hid ll; have HV := Lib.hid hv; have VS := Lib.hid vs
    have LP : Hid ((styA m1 zs (a : Int) y1 y2 y3 y4 y5 y6 y7 y8).length = m1 * 9) := Lib.hid (by rw [ES.out]; exact LL.out)
    have LE := Lib.hid (fun i p (hi : i < m1) (hpi : par zs i = ((p : Nat) : Int)) (hna : anc zs p a = false) (hq : layR L m1 300 200 p = layR zs m1 300 200 p) => lay_else (W := 300) (H := 200) hv vs ha (fun i hi => sp i hi) (fun i j hi hia h1 h2 => se (i * 9 + j) (by omega) (by omega)) hi hpi hna hq)
    have ok1 : layOk m1 zs 300 200 = true := layOk_iff.2 ⟨hv, by omega, by omega⟩
    have ok2 : layOk m1 L 300 200 = true := layOk_iff.2 ⟨vs, by omega, by omega⟩
    have LA1 := Lib.hid (fun i hi => lay_at ok1 (i := i) hi)
    have LA2 := Lib.hid (fun i hi => lay_at ok2 (i := i) hi)
    have LQ1 : Hid ((flat4 (layA m1 zs 300 200)).length = m1 * 4) := Lib.hid (by rw [flat4_len, layA_yes ok1]; simp)
    have LQ2 : Hid ((flat4 (layA m1 L 300 200)).length = m1 * 4) := Lib.hid (by rw [flat4_len, layA_yes ok2]; simp)
    have V1 := Lib.hid (fun k => flat4_at (layA m1 zs 300 200) k)
    have V2 := Lib.hid (fun k => flat4_at (layA m1 L 300 200) k)
    have LR : Hid (lrtA m1 zs (a : Int) = (lrt zs a : Int)) := Lib.hid (by unfold lrtA; rw [if_pos hn1, Int.toNat_natCast])
    have lr := lrt_le zs a
    have PZ := Lib.hid (fun i (hi : i < m1) => (show par zs i = -1 ∨ ∃ p : Nat, par zs i = (p : Int) ∧ p < m1 by
      rcases Nat.eq_zero_or_pos i with h0 | h0
      · subst h0; exact .inl ((link_vt hv).root hi)
      · obtain ⟨p, p1, p2, _⟩ := (link_vt hv).up i h0 hi; exact .inr ⟨p, p1, by omega⟩))
    have AR := Lib.hid (fun p (hp : p < m1) => (show arA m1 zs (p : Int) (a : Int) = anc zs p a from arA_at hv hp ha))
    have a0 : (0 : Int) ≤ (a : Int) := by omega
    have a1 : (a : Int) < (m1 : Int) := by omega
    clear hso hn1 hv xb es vs se sp ll hL ok1 ok2
    have bx0 := RB.out.c 0 (by simp)
    have bx1 := RB.out.c 1 (by simp)
    have bx2 := RB.out.c 2 (by simp)
    have bx3 := RB.out.c 3 (by simp)
    have bx4 := RB.out.c 4 (by simp)
    have bx5 := RB.out.c 5 (by simp)
    have bx6 := RB.out.c 6 (by simp)
    have bx7 := RB.out.c 7 (by simp)
    have bx8 := RB.out.c 8 (by simp)
    simp only [List.getD_cons_zero, List.getD_cons_succ] at bx0 bx1 bx2 bx3 bx4 bx5 bx6 bx7 bx8
    go_wp2_with fail
    refine (StyleBox_ansT B1 m1 d1 zs (a : Int) y0 y1 y2 y3 y4 y5 y6 y7 y8 (by omega) _ I1.out).mono ?_
    rw [OK.out]
    rintro e w2 ⟨A2, n2, c2, rfl, l2, r2, N2a⟩
    have s2 := N2a.le
    have I1 := Lib.hid (I1.out.new N2a)
    have RB := Lib.hid (RB.out.new N2a)
    have N2 := Lib.hid ((N1.out.alloc (.cells #[.int .i64 y0, .int .i64 y1, .int .i64 y2, .int .i64 y3, .int .i64 y4, .int .i64 y5, .int .i64 y6, .int .i64 y7, .int .i64 y8] 30)).trans N2a); clear N2a
    obtain rfl : m1 = n2 := by have := LP.out; omega
    have R2 := Lib.hid r2; clear l2 r2
    clear bx0 bx1 bx2 bx3 bx4 bx5 bx6 bx7 bx8
    have bx0 := RB.out.c 0 (by simp)
    have bx1 := RB.out.c 1 (by simp)
    have bx2 := RB.out.c 2 (by simp)
    have bx3 := RB.out.c 3 (by simp)
    have bx4 := RB.out.c 4 (by simp)
    have bx5 := RB.out.c 5 (by simp)
    have bx6 := RB.out.c 6 (by simp)
    have bx7 := RB.out.c 7 (by simp)
    have bx8 := RB.out.c 8 (by simp)
    simp only [List.getD_cons_zero, List.getD_cons_succ] at bx0 bx1 bx2 bx3 bx4 bx5 bx6 bx7 bx8
    go_wp2_with fail
    refine (SStyleBox_ansT B1 m1 d1 zs (a : Int) y0 y1 y2 y3 y4 y5 y6 y7 y8 (by omega) _ I1.out).mono ?_
    rw [OK.out]
    rintro e w3 ⟨A3, n3, c3, rfl, l3, r3, N3a⟩
    have s3 := N3a.le
    have I1 := Lib.hid (I1.out.new N3a)
    have RB := Lib.hid (RB.out.new N3a)
    have R2 := Lib.hid (R2.out.new N3a)
    have N3 := Lib.hid (N2.out.trans N3a); clear N3a
    obtain rfl : m1 = n3 := by have := LP.out; omega
    have R3 := Lib.hid r3; clear l3 r3
    clear bx0 bx1 bx2 bx3 bx4 bx5 bx6 bx7 bx8
    go_wp2_with fail
    refine (equalBoxes_same _ _ m1 _ _ _ (by omega) _ (Sts.of_res R2.out LP.out) (Sts.of_res R3.out LP.out)).mono ?_
    rintro e w4 ⟨rfl, N4a⟩
    have s4 := N4a.le
    have I1 := Lib.hid (I1.out.new N4a)
    have RB := Lib.hid (RB.out.new N4a)
    have R2 := Lib.hid (R2.out.new N4a)
    have R3 := Lib.hid (R3.out.new N4a)
    have N4 := Lib.hid (N3.out.trans N4a); clear N4a
    replace R2 := Lib.hid (ES.out ▸ R2.out)
    go_wp2_with fail
    refine (LayoutRoot_any B1 m1 d1 zs (a : Int) (by omega) _ I1.out).mono ?_
    rw [LR.out]
    rintro e w5 ⟨rfl, N5a⟩
    have s5 := N5a.le
    have I1 := Lib.hid (I1.out.new N5a)
    have RB := Lib.hid (RB.out.new N5a)
    have R2 := Lib.hid (R2.out.new N5a)
    have R3 := Lib.hid (R3.out.new N5a)
    have N5 := Lib.hid (N4.out.trans N5a); clear N5a
    go_wp2_with fail
    refine (LayoutTree_ans B1 m1 d1 zs 300 200 (by omega) _ I1.out).mono ?_
    rintro e w6 ⟨A6, n6, c6, rfl, l6, r6, N6a⟩
    have s6 := N6a.le
    have I1 := Lib.hid (I1.out.new N6a)
    have RB := Lib.hid (RB.out.new N6a)
    have R2 := Lib.hid (R2.out.new N6a)
    have R3 := Lib.hid (R3.out.new N6a)
    have N6 := Lib.hid (N5.out.trans N6a); clear N6a
    obtain rfl : m1 = n6 := by have := LQ1.out; omega
    have R6 := Lib.hid r6; clear l6 r6
    go_wp2_with fail
    refine (LayoutTree_ans A2 m1 c2 L 300 200 (by omega) _ (Sts.of_res R2.out LL.out)).mono ?_
    rintro e w7 ⟨A7, n7, c7, rfl, l7, r7, N7a⟩
    have s7 := N7a.le
    have I1 := Lib.hid (I1.out.new N7a)
    have RB := Lib.hid (RB.out.new N7a)
    have R2 := Lib.hid (R2.out.new N7a)
    have R3 := Lib.hid (R3.out.new N7a)
    have R6 := Lib.hid (R6.out.new N7a)
    have N7 := Lib.hid (N6.out.trans N7a); clear N7a
    obtain rfl : m1 = n7 := by have := LQ2.out; omega
    have R7 := Lib.hid r7; clear l7 r7
    have NN := Lib.hid N7.out
    obtain ⟨b, off, rfl, hb, hc⟩ := I1.out.at_ (by omega)
    obtain ⟨p1, o1, rfl, hp1, hq1⟩ := (Sts.of_res (m := 3) R6.out LQ1.out).at_ (by omega)
    obtain ⟨p2, o2, rfl, hp2, hq2⟩ := (Sts.of_res (m := 3) R7.out LQ2.out).at_ (by omega)
    have GT := Lib.hid (fun i (hi : i < m1) V (hV : New w7 V) => (show V.cell? ⟨b, off + i * 9, none⟩ = some (.int .i64 (par zs i)) from (hV.cells b _ hb).trans (hc (i * 9) (by omega))))
    have G1 := Lib.hid (fun i (hi : i < m1) V (hV : New w7 V) => (show V.cell? ⟨p1, o1 + i * 4, none⟩ = some (.int .i64 (layR zs m1 300 200 i).1) ∧ V.cell? ⟨p1, o1 + i * 4 + 1, none⟩ = some (.int .i64 (layR zs m1 300 200 i).2.1) ∧ V.cell? ⟨p1, o1 + i * 4 + 2, none⟩ = some (.int .i64 (layR zs m1 300 200 i).2.2.1) ∧ V.cell? ⟨p1, o1 + i * 4 + 3, none⟩ = some (.int .i64 (layR zs m1 300 200 i).2.2.2) by
      obtain ⟨v0, v1, v2, v3⟩ := V1.out i
      rw [LA1.out i hi] at v0 v1 v2 v3
      exact ⟨(hV.cells p1 _ hp1).trans ((hq1 (i * 4) (by omega)).trans (by rw [v0])), (hV.cells p1 _ hp1).trans ((hq1 (i * 4 + 1) (by omega)).trans (by rw [v1])), (hV.cells p1 _ hp1).trans ((hq1 (i * 4 + 2) (by omega)).trans (by rw [v2])), (hV.cells p1 _ hp1).trans ((hq1 (i * 4 + 3) (by omega)).trans (by rw [v3]))⟩))
    have G2 := Lib.hid (fun i (hi : i < m1) V (hV : New w7 V) => (show V.cell? ⟨p2, o2 + i * 4, none⟩ = some (.int .i64 (layR L m1 300 200 i).1) ∧ V.cell? ⟨p2, o2 + i * 4 + 1, none⟩ = some (.int .i64 (layR L m1 300 200 i).2.1) ∧ V.cell? ⟨p2, o2 + i * 4 + 2, none⟩ = some (.int .i64 (layR L m1 300 200 i).2.2.1) ∧ V.cell? ⟨p2, o2 + i * 4 + 3, none⟩ = some (.int .i64 (layR L m1 300 200 i).2.2.2) by
      obtain ⟨v0, v1, v2, v3⟩ := V2.out i
      rw [LA2.out i hi] at v0 v1 v2 v3
      exact ⟨(hV.cells p2 _ hp2).trans ((hq2 (i * 4) (by omega)).trans (by rw [v0])), (hV.cells p2 _ hp2).trans ((hq2 (i * 4 + 1) (by omega)).trans (by rw [v1])), (hV.cells p2 _ hp2).trans ((hq2 (i * 4 + 2) (by omega)).trans (by rw [v2])), (hV.cells p2 _ hp2).trans ((hq2 (i * 4 + 3) (by omega)).trans (by rw [v3]))⟩))
    have lr0 : (0 : Int) ≤ (lrt zs a : Int) := by omega
    have lr1 : (lrt zs a : Int) < (m1 : Int) := by omega
    generalize lrt zs a = k at *
    have dk1 : decide ((k : Int) < 0) = false := decide_eq_false (by omega)
    have dk2 : decide ((k : Int) ≥ (m1 : Int)) = false := decide_eq_false (by omega)
    have dk3 : decide ((m1 : Int) ≤ (k : Int)) = false := decide_eq_false (by omega)
    have dk4 : decide (m1 ≤ k) = false := decide_eq_false (by omega)
    clear hc hq1 hq2 hp1 hp2 lr
    go_wp2
    go_loopw [13] (fun i wr => ∃ j : Nat, j ≤ m1 ∧ i = .int .i64 j ∧ Hid (New w7 wr)) (fun i _ => m1 - (intOf i).toNat)
    case atStart => exact ⟨0, Nat.zero_le _, rfl, Lib.hid (New.refl _)⟩
    case round =>
      obtain ⟨j, hj, rfl, HW⟩ := hrel
      have j0 : (0 : Int) ≤ (j : Int) := by omega
      by_cases hlt : j < m1
      · have j1 : (j : Int) < (m1 : Int) := by omega
        have ND := Lib.hid (New.refl wr).drew
        have gt := Lib.hid (GT.out j hlt)
        rcases PZ.out j hlt with hpz | ⟨p, hpz, hpm⟩
        · rw [hpz] at gt
          have KF := Lib.hid (fun X (hX : New wr X) => gt.out X (HW.out.trans hX))
          clear hpz
          go_wp2
          refine wp_region_noPanic ?_
          refine wp_region_held_drew (S := fun w' => w'.cell? ⟨b, off + j * 9, none⟩ = some (.int .i64 (-1))) (by kernel_rfl) (KF.out _ ND.out) (fun hHeld => ?_)
          generalize wr.drew = Vd at ND hHeld ⊢
          refine wpAnyH_take (i := 0) (oi := _) (v := ?_) rfl (by kernel_rfl) (by kernel_rfl) (by kernel_rfl) (fun _ _ _ h => h) (Or.inl ⟨by kernel_rfl, ?_⟩) (by assumption) ?_
          rotate_left; (intro w' hSw; (try dsimp only at hSw); go_split_ands; go_simp; (try with_reducible rfl))
          try dsimp only [Act.put]
          refine wpAnyH_take (i := 1) (oi := _) (v := ?_) rfl (by kernel_rfl) (by kernel_rfl) (by kernel_rfl) (fun _ _ _ h => h) (Or.inl ⟨by kernel_rfl, ?_⟩) (by assumption) ?_
          rotate_left; (intro w' hSw; (try dsimp only at hSw); go_split_ands; go_simp; (try with_reducible rfl))
          try dsimp only [Act.put]
          refine wpAnyH_take (i := 2) (oi := _) (v := ?_) rfl (by kernel_rfl) (by kernel_rfl) (by kernel_rfl) (fun _ _ _ h => h) (Or.inl ⟨by kernel_rfl, ?_⟩) (by assumption) ?_
          rotate_left; (intro w' hSw; (try dsimp only at hSw); go_split_ands; go_simp; (try with_reducible rfl))
          try dsimp only [Act.put]
          refine wpAnyH_take (i := 3) (oi := _) (v := ?_) rfl (by kernel_rfl) (by kernel_rfl) (by kernel_rfl) (fun _ _ _ h => h) (Or.inl ⟨by kernel_rfl, ?_⟩) (by assumption) ?_
          rotate_left; (intro w' hSw; (try dsimp only at hSw); go_split_ands; go_simp; (try with_reducible rfl))
          try dsimp only [Act.put]
          refine wpAnyH_take (i := 4) (oi := _) (v := ?_) rfl (by kernel_rfl) (by kernel_rfl) (by kernel_rfl) (fun _ _ _ h => h) (Or.inl ⟨by kernel_rfl, ?_⟩) (by assumption) ?_
          rotate_left; (intro w' hSw; (try dsimp only at hSw); go_split_ands; go_simp; (try with_reducible rfl))
          try dsimp only [Act.put]
          refine wpAnyH_take (i := 5) (oi := _) (v := ?_) rfl (by kernel_rfl) (by kernel_rfl) (by kernel_rfl) (fun _ _ _ h => h) (Or.inl ⟨by kernel_rfl, ?_⟩) (by assumption) ?_
          rotate_left; (intro w' hSw; (try dsimp only at hSw); go_split_ands; go_simp; (try with_reducible rfl))
          try dsimp only [Act.put]
          refine wpAnyH_take (i := 6) (oi := _) (v := ?_) rfl (by kernel_rfl) (by kernel_rfl) (by kernel_rfl) (fun _ _ _ h => h) (Or.inl ⟨by kernel_rfl, ?_⟩) (by assumption) ?_
          rotate_left; (intro w' hSw; (try dsimp only at hSw); go_split_ands; go_simp; (try with_reducible rfl))
          try dsimp only [Act.put]
          refine wpAnyH_take (i := 7) (oi := _) (v := undef) rfl (by kernel_rfl) (by kernel_rfl) (by kernel_rfl) (fun _ _ _ h => h) (Or.inr ⟨by kernel_rfl, rfl⟩) (by assumption) ?_
          try dsimp only [Act.put]
          refine wpAnyH_take (i := 8) (oi := _) (v := undef) rfl (by kernel_rfl) (by kernel_rfl) (by kernel_rfl) (fun _ _ _ h => h) (Or.inr ⟨by kernel_rfl, rfl⟩) (by assumption) ?_
          try dsimp only [Act.put]
          refine wpAnyH_take (i := 9) (oi := _) (v := undef) rfl (by kernel_rfl) (by kernel_rfl) (by kernel_rfl) (fun _ _ _ h => h) (Or.inr ⟨by kernel_rfl, rfl⟩) (by assumption) ?_
          try dsimp only [Act.put]
          refine wpAnyH_take (i := 10) (oi := _) (v := undef) rfl (by kernel_rfl) (by kernel_rfl) (by kernel_rfl) (fun _ _ _ h => h) (Or.inr ⟨by kernel_rfl, rfl⟩) (by assumption) ?_
          try dsimp only [Act.put]
          refine wpAnyH_take (i := 11) (oi := _) (v := undef) rfl (by kernel_rfl) (by kernel_rfl) (by kernel_rfl) (fun _ _ _ h => h) (Or.inr ⟨by kernel_rfl, rfl⟩) (by assumption) ?_
          try dsimp only [Act.put]
          refine wpAnyH_take (i := 12) (oi := _) (v := undef) rfl (by kernel_rfl) (by kernel_rfl) (by kernel_rfl) (fun _ _ _ h => h) (Or.inr ⟨by kernel_rfl, rfl⟩) (by assumption) ?_
          try dsimp only [Act.put]
          refine wpAnyH_take (i := 13) (oi := _) (v := undef) rfl (by kernel_rfl) (by kernel_rfl) (by kernel_rfl) (fun _ _ _ h => h) (Or.inr ⟨by kernel_rfl, rfl⟩) (by assumption) ?_
          try dsimp only [Act.put]
          refine wpAnyH_take (i := 14) (oi := _) (v := undef) rfl (by kernel_rfl) (by kernel_rfl) (by kernel_rfl) (fun _ _ _ h => h) (Or.inr ⟨by kernel_rfl, rfl⟩) (by assumption) ?_
          try dsimp only [Act.put]
          refine wpAnyH_take (i := 15) (oi := _) (v := undef) rfl (by kernel_rfl) (by kernel_rfl) (by kernel_rfl) (fun _ _ _ h => h) (Or.inr ⟨by kernel_rfl, rfl⟩) (by assumption) ?_
          try dsimp only [Act.put]
          refine wpAnyH_take (i := 16) (oi := _) (v := undef) rfl (by kernel_rfl) (by kernel_rfl) (by kernel_rfl) (fun _ _ _ h => h) (Or.inr ⟨by kernel_rfl, rfl⟩) (by assumption) ?_
          try dsimp only [Act.put]
          refine wpAnyH_take (i := 17) (oi := _) (v := undef) rfl (by kernel_rfl) (by kernel_rfl) (by kernel_rfl) (fun _ _ _ h => h) (Or.inr ⟨by kernel_rfl, rfl⟩) (by assumption) ?_
          try dsimp only [Act.put]
          refine wpAnyH_take (i := 18) (oi := _) (v := undef) rfl (by kernel_rfl) (by kernel_rfl) (by kernel_rfl) (fun _ _ _ h => h) (Or.inr ⟨by kernel_rfl, rfl⟩) (by assumption) ?_
          try dsimp only [Act.put]
          refine wpAnyH_take (i := 19) (oi := _) (v := undef) rfl (by kernel_rfl) (by kernel_rfl) (by kernel_rfl) (fun _ _ _ h => h) (Or.inr ⟨by kernel_rfl, rfl⟩) (by assumption) ?_
          try dsimp only [Act.put]
          refine wpAnyH_take (i := 20) (oi := _) (v := undef) rfl (by kernel_rfl) (by kernel_rfl) (by kernel_rfl) (fun _ _ _ h => h) (Or.inr ⟨by kernel_rfl, rfl⟩) (by assumption) ?_
          try dsimp only [Act.put]
          refine wpAnyH_take (i := 21) (oi := _) (v := undef) rfl (by kernel_rfl) (by kernel_rfl) (by kernel_rfl) (fun _ _ _ h => h) (Or.inr ⟨by kernel_rfl, rfl⟩) (by assumption) ?_
          try dsimp only [Act.put]
          refine wpAnyH_take (i := 22) (oi := _) (v := undef) rfl (by kernel_rfl) (by kernel_rfl) (by kernel_rfl) (fun _ _ _ h => h) (Or.inr ⟨by kernel_rfl, rfl⟩) (by assumption) ?_
          try dsimp only [Act.put]
          refine wpAnyH_take (i := 23) (oi := _) (v := undef) rfl (by kernel_rfl) (by kernel_rfl) (by kernel_rfl) (fun _ _ _ h => h) (Or.inr ⟨by kernel_rfl, rfl⟩) (by assumption) ?_
          try dsimp only [Act.put]
          refine wpAnyH_take (i := 24) (oi := _) (v := ?_) rfl (by kernel_rfl) (by kernel_rfl) (by kernel_rfl) (fun _ _ _ h => h) (Or.inl ⟨by kernel_rfl, ?_⟩) (by assumption) ?_
          rotate_left; (intro w' hSw; (try dsimp only at hSw); go_split_ands; go_simp; (try with_reducible rfl))
          try dsimp only [Act.put]
          refine wpAnyH_take (i := 25) (oi := _) (v := ?_) rfl (by kernel_rfl) (by kernel_rfl) (by kernel_rfl) (fun _ _ _ h => h) (Or.inl ⟨by kernel_rfl, ?_⟩) (by assumption) ?_
          rotate_left; (intro w' hSw; (try dsimp only at hSw); go_split_ands; go_simp; (try with_reducible rfl))
          try dsimp only [Act.put]
          refine wpAnyH_take (i := 26) (oi := _) (v := undef) rfl (by kernel_rfl) (by kernel_rfl) (by kernel_rfl) (fun _ _ _ h => h) (Or.inr ⟨by kernel_rfl, rfl⟩) (by assumption) ?_
          try dsimp only [Act.put]
          refine wpAnyH_take (i := 27) (oi := _) (v := undef) rfl (by kernel_rfl) (by kernel_rfl) (by kernel_rfl) (fun _ _ _ h => h) (Or.inr ⟨by kernel_rfl, rfl⟩) (by assumption) ?_
          try dsimp only [Act.put]
          refine wpAnyH_take (i := 28) (oi := _) (v := undef) rfl (by kernel_rfl) (by kernel_rfl) (by kernel_rfl) (fun _ _ _ h => h) (Or.inr ⟨by kernel_rfl, rfl⟩) (by assumption) ?_
          try dsimp only [Act.put]
          refine wpAnyH_take (i := 29) (oi := _) (v := undef) rfl (by kernel_rfl) (by kernel_rfl) (by kernel_rfl) (fun _ _ _ h => h) (Or.inr ⟨by kernel_rfl, rfl⟩) (by assumption) ?_
          try dsimp only [Act.put]
          refine wpAnyH_take (i := 30) (oi := _) (v := undef) rfl (by kernel_rfl) (by kernel_rfl) (by kernel_rfl) (fun _ _ _ h => h) (Or.inr ⟨by kernel_rfl, rfl⟩) (by assumption) ?_
          try dsimp only [Act.put]
          refine wpAnyH_take (i := 31) (oi := _) (v := undef) rfl (by kernel_rfl) (by kernel_rfl) (by kernel_rfl) (fun _ _ _ h => h) (Or.inr ⟨by kernel_rfl, rfl⟩) (by assumption) ?_
          try dsimp only [Act.put]
          refine wpAnyH_take (i := 32) (oi := _) (v := undef) rfl (by kernel_rfl) (by kernel_rfl) (by kernel_rfl) (fun _ _ _ h => h) (Or.inr ⟨by kernel_rfl, rfl⟩) (by assumption) ?_
          try dsimp only [Act.put]
          refine wpAnyH_take (i := 33) (oi := _) (v := undef) rfl (by kernel_rfl) (by kernel_rfl) (by kernel_rfl) (fun _ _ _ h => h) (Or.inr ⟨by kernel_rfl, rfl⟩) (by assumption) ?_
          try dsimp only [Act.put]
          refine wpAnyH_take (i := 34) (oi := _) (v := undef) rfl (by kernel_rfl) (by kernel_rfl) (by kernel_rfl) (fun _ _ _ h => h) (Or.inr ⟨by kernel_rfl, rfl⟩) (by assumption) ?_
          try dsimp only [Act.put]
          refine wpAnyH_take (i := 35) (oi := _) (v := ?_) rfl (by kernel_rfl) (by kernel_rfl) (by kernel_rfl) (fun _ _ _ h => h) (Or.inl ⟨by kernel_rfl, ?_⟩) (by assumption) ?_
          rotate_left; (intro w' hSw; (try dsimp only at hSw); go_split_ands; go_simp; (try with_reducible rfl))
          try dsimp only [Act.put]
          refine wpAnyH_take (i := 36) (oi := _) (v := ?_) rfl (by kernel_rfl) (by kernel_rfl) (by kernel_rfl) (fun _ _ _ h => h) (Or.inl ⟨by kernel_rfl, ?_⟩) (by assumption) ?_
          rotate_left; (intro w' hSw; (try dsimp only at hSw); go_split_ands; go_simp; (try with_reducible rfl))
          try dsimp only [Act.put]
          refine wpAnyH_take (i := 37) (oi := _) (v := undef) rfl (by kernel_rfl) (by kernel_rfl) (by kernel_rfl) (fun _ _ _ h => h) (Or.inr ⟨by kernel_rfl, rfl⟩) (by assumption) ?_
          try dsimp only [Act.put]
          refine wpAnyH_take (i := 38) (oi := _) (v := undef) rfl (by kernel_rfl) (by kernel_rfl) (by kernel_rfl) (fun _ _ _ h => h) (Or.inr ⟨by kernel_rfl, rfl⟩) (by assumption) ?_
          try dsimp only [Act.put]
          refine wpAnyH_take (i := 39) (oi := _) (v := undef) rfl (by kernel_rfl) (by kernel_rfl) (by kernel_rfl) (fun _ _ _ h => h) (Or.inr ⟨by kernel_rfl, rfl⟩) (by assumption) ?_
          try dsimp only [Act.put]
          refine wpAnyH_take (i := 40) (oi := _) (v := undef) rfl (by kernel_rfl) (by kernel_rfl) (by kernel_rfl) (fun _ _ _ h => h) (Or.inr ⟨by kernel_rfl, rfl⟩) (by assumption) ?_
          try dsimp only [Act.put]
          refine wpAnyH_take (i := 41) (oi := _) (v := undef) rfl (by kernel_rfl) (by kernel_rfl) (by kernel_rfl) (fun _ _ _ h => h) (Or.inr ⟨by kernel_rfl, rfl⟩) (by assumption) ?_
          try dsimp only [Act.put]
          refine wpAnyH_take (i := 42) (oi := _) (v := undef) rfl (by kernel_rfl) (by kernel_rfl) (by kernel_rfl) (fun _ _ _ h => h) (Or.inr ⟨by kernel_rfl, rfl⟩) (by assumption) ?_
          try dsimp only [Act.put]
          refine wpAnyH_take (i := 43) (oi := _) (v := undef) rfl (by kernel_rfl) (by kernel_rfl) (by kernel_rfl) (fun _ _ _ h => h) (Or.inr ⟨by kernel_rfl, rfl⟩) (by assumption) ?_
          try dsimp only [Act.put]
          refine wpAnyH_take (i := 44) (oi := _) (v := undef) rfl (by kernel_rfl) (by kernel_rfl) (by kernel_rfl) (fun _ _ _ h => h) (Or.inr ⟨by kernel_rfl, rfl⟩) (by assumption) ?_
          try dsimp only [Act.put]
          refine wpAnyH_take (i := 45) (oi := _) (v := undef) rfl (by kernel_rfl) (by kernel_rfl) (by kernel_rfl) (fun _ _ _ h => h) (Or.inr ⟨by kernel_rfl, rfl⟩) (by assumption) ?_
          try dsimp only [Act.put]
          refine wpAnyH_take (i := 46) (oi := _) (v := ?_) rfl (by kernel_rfl) (by kernel_rfl) (by kernel_rfl) (fun _ _ _ h => h) (Or.inl ⟨by kernel_rfl, ?_⟩) (by assumption) ?_
          rotate_left; (intro w' hSw; (try dsimp only at hSw); go_split_ands; go_simp; (try with_reducible rfl))
          try dsimp only [Act.put]
          refine wpAnyH_done (by kernel_rfl) ?_ _
          refine NoPanic.normal ?_
          go_simp
          go_wp2
          go_roundw
          case rel => exact ⟨j + 1, by omega, by go_num, Lib.hid (HW.out.trans ND.out)⟩
          case measure => simp [intOf]; omega
        · rw [hpz] at gt
          have pz0 : (0 : Int) ≤ (p : Int) := by omega
          have pz1 : (p : Int) < (m1 : Int) := by omega
          have LEJ := Lib.hid (LE.out j p hlt hpz)
          have ar := Lib.hid (AR.out p hpm)
          have g1p := Lib.hid (G1.out p hpm); have g2p := Lib.hid (G2.out p hpm)
          have g1j := Lib.hid (G1.out j hlt); have g2j := Lib.hid (G2.out j hlt)
          clear hpz
          obtain ⟨⟨q0, q1, q2, q3⟩, hq⟩ : ∃ Q, layR zs m1 300 200 p = Q := ⟨_, rfl⟩
          obtain ⟨⟨r0, r1, r2, r3⟩, hr⟩ : ∃ Q, layR L m1 300 200 p = Q := ⟨_, rfl⟩
          obtain ⟨⟨t0, t1, t2, t3⟩, ht⟩ : ∃ Q, layR zs m1 300 200 j = Q := ⟨_, rfl⟩
          obtain ⟨⟨u0, u1, u2, u3⟩, hu⟩ : ∃ Q, layR L m1 300 200 j = Q := ⟨_, rfl⟩
          rw [hq] at g1p LEJ
          rw [hr] at g2p LEJ
          rw [ht] at g1j LEJ
          rw [hu] at g2j LEJ
          dsimp only at g1p g2p g1j g2j
          clear hq hr ht hu
          by_cases heq : (r0, r1, r2, r3) = (q0, q1, q2, q3)
          · obtain ⟨rfl, rfl, rfl, rfl⟩ : r0 = q0 ∧ r1 = q1 ∧ r2 = q2 ∧ r3 = q3 := by simpa using heq
            cases hna : anc zs p a
            · obtain ⟨rfl, rfl, rfl, rfl⟩ : u0 = t0 ∧ u1 = t1 ∧ u2 = t2 ∧ u3 = t3 := by simpa using LEJ.out hna rfl
              rw [hna] at ar
              have KF := Lib.hid (fun X (hX : New wr X) => (⟨gt.out X (HW.out.trans hX), g1p.out X (HW.out.trans hX), g2p.out X (HW.out.trans hX), g1j.out X (HW.out.trans hX), g2j.out X (HW.out.trans hX)⟩ : X.cell? ⟨b, off + j * 9, none⟩ = some (.int .i64 (p : Int)) ∧ (X.cell? ⟨p1, o1 + p * 4, none⟩ = some (.int .i64 r0) ∧ X.cell? ⟨p1, o1 + p * 4 + 1, none⟩ = some (.int .i64 r1) ∧ X.cell? ⟨p1, o1 + p * 4 + 2, none⟩ = some (.int .i64 r2) ∧ X.cell? ⟨p1, o1 + p * 4 + 3, none⟩ = some (.int .i64 r3)) ∧ (X.cell? ⟨p2, o2 + p * 4, none⟩ = some (.int .i64 r0) ∧ X.cell? ⟨p2, o2 + p * 4 + 1, none⟩ = some (.int .i64 r1) ∧ X.cell? ⟨p2, o2 + p * 4 + 2, none⟩ = some (.int .i64 r2) ∧ X.cell? ⟨p2, o2 + p * 4 + 3, none⟩ = some (.int .i64 r3)) ∧ (X.cell? ⟨p1, o1 + j * 4, none⟩ = some (.int .i64 u0) ∧ X.cell? ⟨p1, o1 + j * 4 + 1, none⟩ = some (.int .i64 u1) ∧ X.cell? ⟨p1, o1 + j * 4 + 2, none⟩ = some (.int .i64 u2) ∧ X.cell? ⟨p1, o1 + j * 4 + 3, none⟩ = some (.int .i64 u3)) ∧ X.cell? ⟨p2, o2 + j * 4, none⟩ = some (.int .i64 u0) ∧ X.cell? ⟨p2, o2 + j * 4 + 1, none⟩ = some (.int .i64 u1) ∧ X.cell? ⟨p2, o2 + j * 4 + 2, none⟩ = some (.int .i64 u2) ∧ X.cell? ⟨p2, o2 + j * 4 + 3, none⟩ = some (.int .i64 u3)))
              clear hna heq
              go_wp2
              refine wp_region_noPanic ?_
              refine wp_region_held_drew (S := fun w' => w'.cell? ⟨b, off + j * 9, none⟩ = some (.int .i64 (p : Int)) ∧ (w'.cell? ⟨p1, o1 + p * 4, none⟩ = some (.int .i64 r0) ∧ w'.cell? ⟨p1, o1 + p * 4 + 1, none⟩ = some (.int .i64 r1) ∧ w'.cell? ⟨p1, o1 + p * 4 + 2, none⟩ = some (.int .i64 r2) ∧ w'.cell? ⟨p1, o1 + p * 4 + 3, none⟩ = some (.int .i64 r3)) ∧ (w'.cell? ⟨p2, o2 + p * 4, none⟩ = some (.int .i64 r0) ∧ w'.cell? ⟨p2, o2 + p * 4 + 1, none⟩ = some (.int .i64 r1) ∧ w'.cell? ⟨p2, o2 + p * 4 + 2, none⟩ = some (.int .i64 r2) ∧ w'.cell? ⟨p2, o2 + p * 4 + 3, none⟩ = some (.int .i64 r3)) ∧ (w'.cell? ⟨p1, o1 + j * 4, none⟩ = some (.int .i64 u0) ∧ w'.cell? ⟨p1, o1 + j * 4 + 1, none⟩ = some (.int .i64 u1) ∧ w'.cell? ⟨p1, o1 + j * 4 + 2, none⟩ = some (.int .i64 u2) ∧ w'.cell? ⟨p1, o1 + j * 4 + 3, none⟩ = some (.int .i64 u3)) ∧ w'.cell? ⟨p2, o2 + j * 4, none⟩ = some (.int .i64 u0) ∧ w'.cell? ⟨p2, o2 + j * 4 + 1, none⟩ = some (.int .i64 u1) ∧ w'.cell? ⟨p2, o2 + j * 4 + 2, none⟩ = some (.int .i64 u2) ∧ w'.cell? ⟨p2, o2 + j * 4 + 3, none⟩ = some (.int .i64 u3)) (by kernel_rfl) (KF.out _ ND.out) (fun hHeld => ?_)
              generalize wr.drew = Vd at ND hHeld ⊢
              refine wpAnyH_take (i := 0) (oi := _) (v := ?_) rfl (by kernel_rfl) (by kernel_rfl) (by kernel_rfl) (fun _ _ _ h => h) (Or.inl ⟨by kernel_rfl, ?_⟩) (by assumption) ?_
              rotate_left; (intro w' hSw; (try dsimp only at hSw); go_split_ands; go_simp; (try with_reducible rfl))
              try dsimp only [Act.put]
              refine wpAnyH_take (i := 1) (oi := _) (v := ?_) rfl (by kernel_rfl) (by kernel_rfl) (by kernel_rfl) (fun _ _ _ h => h) (Or.inl ⟨by kernel_rfl, ?_⟩) (by assumption) ?_
              rotate_left; (intro w' hSw; (try dsimp only at hSw); go_split_ands; go_simp; (try with_reducible rfl))
              try dsimp only [Act.put]
              refine wpAnyH_take (i := 2) (oi := _) (v := ?_) rfl (by kernel_rfl) (by kernel_rfl) (by kernel_rfl) (fun _ _ _ h => h) (Or.inl ⟨by kernel_rfl, ?_⟩) (by assumption) ?_
              rotate_left; (intro w' hSw; (try dsimp only at hSw); go_split_ands; go_simp; (try with_reducible rfl))
              try dsimp only [Act.put]
              refine wpAnyH_take (i := 3) (oi := _) (v := ?_) rfl (by kernel_rfl) (by kernel_rfl) (by kernel_rfl) (fun _ _ _ h => h) (Or.inl ⟨by kernel_rfl, ?_⟩) (by assumption) ?_
              rotate_left; (intro w' hSw; (try dsimp only at hSw); go_split_ands; go_simp; (try with_reducible rfl))
              try dsimp only [Act.put]
              refine wpAnyH_take (i := 4) (oi := _) (v := ?_) rfl (by kernel_rfl) (by kernel_rfl) (by kernel_rfl) (fun _ _ _ h => h) (Or.inl ⟨by kernel_rfl, ?_⟩) (by assumption) ?_
              rotate_left; (intro w' hSw; (try dsimp only at hSw); go_split_ands; go_simp; (try with_reducible rfl))
              try dsimp only [Act.put]
              refine wpAnyH_take (i := 5) (oi := _) (v := ?_) rfl (by kernel_rfl) (by kernel_rfl) (by kernel_rfl) (fun _ _ _ h => h) (Or.inl ⟨by kernel_rfl, ?_⟩) (by assumption) ?_
              rotate_left; (intro w' hSw; (try dsimp only at hSw); go_split_ands; go_simp; (try with_reducible rfl))
              try dsimp only [Act.put]
              refine wpAnyH_take (i := 6) (oi := _) (v := ?_) rfl (by kernel_rfl) (by kernel_rfl) (by kernel_rfl) (fun _ _ _ h => h) (Or.inl ⟨by kernel_rfl, ?_⟩) (by assumption) ?_
              rotate_left; (intro w' hSw; (try dsimp only at hSw); go_split_ands; go_simp; (try with_reducible rfl))
              try dsimp only [Act.put]
              refine wpAnyH_take (i := 7) (oi := _) (v := ?_) rfl (by kernel_rfl) (by kernel_rfl) (by kernel_rfl) (fun _ _ _ h => h) (Or.inl ⟨by kernel_rfl, ?_⟩) (by assumption) ?_
              rotate_left; (intro w' hSw; (try dsimp only at hSw); go_split_ands; go_simp; (try with_reducible rfl))
              try dsimp only [Act.put]
              refine wpAnyH_take (i := 8) (oi := _) (v := ?_) rfl (by kernel_rfl) (by kernel_rfl) (by kernel_rfl) (fun _ _ _ h => h) (Or.inl ⟨by kernel_rfl, ?_⟩) (by assumption) ?_
              rotate_left; (intro w' hSw; (try dsimp only at hSw); go_split_ands; go_simp; (try with_reducible rfl))
              try dsimp only [Act.put]
              refine wpAnyH_take (i := 9) (oi := _) (v := ?_) rfl (by kernel_rfl) (by kernel_rfl) (by kernel_rfl) (fun _ _ _ h => h) (Or.inl ⟨by kernel_rfl, ?_⟩) (by assumption) ?_
              rotate_left; (intro w' hSw; (try dsimp only at hSw); go_split_ands; go_simp; (try with_reducible rfl))
              try dsimp only [Act.put]
              refine wpAnyH_take (i := 10) (oi := _) (v := ?_) rfl (by kernel_rfl) (by kernel_rfl) (by kernel_rfl) (fun _ _ _ h => h) (Or.inl ⟨by kernel_rfl, ?_⟩) (by assumption) ?_
              rotate_left; (intro w' hSw; (try dsimp only at hSw); go_split_ands; go_simp; (try with_reducible rfl))
              try dsimp only [Act.put]
              refine wpAnyH_take (i := 11) (oi := _) (v := ?_) rfl (by kernel_rfl) (by kernel_rfl) (by kernel_rfl) (fun _ _ _ h => h) (Or.inl ⟨by kernel_rfl, ?_⟩) (by assumption) ?_
              rotate_left; (intro w' hSw; (try dsimp only at hSw); go_split_ands; go_simp; (try with_reducible rfl))
              try dsimp only [Act.put]
              refine wpAnyH_take (i := 12) (oi := _) (v := ?_) rfl (by kernel_rfl) (by kernel_rfl) (by kernel_rfl) (fun _ _ _ h => h) (Or.inl ⟨by kernel_rfl, ?_⟩) (by assumption) ?_
              rotate_left; (intro w' hSw; (try dsimp only at hSw); go_split_ands; go_simp; (try with_reducible rfl))
              try dsimp only [Act.put]
              refine wpAnyH_take (i := 13) (oi := _) (v := ?_) rfl (by kernel_rfl) (by kernel_rfl) (by kernel_rfl) (fun _ _ _ h => h) (Or.inl ⟨by kernel_rfl, ?_⟩) (by assumption) ?_
              rotate_left; (intro w' hSw; (try dsimp only at hSw); go_split_ands; go_simp; (try with_reducible rfl))
              try dsimp only [Act.put]
              refine wpAnyH_take (i := 14) (oi := _) (v := ?_) rfl (by kernel_rfl) (by kernel_rfl) (by kernel_rfl) (fun _ _ _ h => h) (Or.inl ⟨by kernel_rfl, ?_⟩) (by assumption) ?_
              rotate_left; (intro w' hSw; (try dsimp only at hSw); go_split_ands; go_simp; (try with_reducible rfl))
              try dsimp only [Act.put]
              refine wpAnyH_take (i := 15) (oi := _) (v := ?_) rfl (by kernel_rfl) (by kernel_rfl) (by kernel_rfl) (fun _ _ _ h => h) (Or.inl ⟨by kernel_rfl, ?_⟩) (by assumption) ?_
              rotate_left; (intro w' hSw; (try dsimp only at hSw); go_split_ands; go_simp; (try with_reducible rfl))
              try dsimp only [Act.put]
              refine wpAnyH_take (i := 16) (oi := _) (v := ?_) rfl (by kernel_rfl) (by kernel_rfl) (by kernel_rfl) (fun _ _ _ h => h) (Or.inl ⟨by kernel_rfl, ?_⟩) (by assumption) ?_
              rotate_left; (intro w' hSw; (try dsimp only at hSw); go_split_ands; go_simp; (try with_reducible rfl))
              try dsimp only [Act.put]
              refine wpAnyH_take (i := 17) (oi := _) (v := ?_) rfl (by kernel_rfl) (by kernel_rfl) (by kernel_rfl) (fun _ _ _ h => h) (Or.inl ⟨by kernel_rfl, ?_⟩) (by assumption) ?_
              rotate_left; (intro w' hSw; (try dsimp only at hSw); go_split_ands; go_simp; (try with_reducible rfl))
              try dsimp only [Act.put]
              refine wpAnyH_take (i := 18) (oi := _) (v := ?_) rfl (by kernel_rfl) (by kernel_rfl) (by kernel_rfl) (fun _ _ _ h => h) (Or.inl ⟨by kernel_rfl, ?_⟩) (by assumption) ?_
              rotate_left; (intro w' hSw; (try dsimp only at hSw); go_split_ands; go_simp; (try with_reducible rfl))
              try dsimp only [Act.put]
              refine wpAnyH_take (i := 19) (oi := _) (v := ?_) rfl (by kernel_rfl) (by kernel_rfl) (by kernel_rfl) (fun _ _ _ h => h) (Or.inl ⟨by kernel_rfl, ?_⟩) (by assumption) ?_
              rotate_left; (intro w' hSw; (try dsimp only at hSw); go_split_ands; go_simp; (try with_reducible rfl))
              try dsimp only [Act.put]
              refine wpAnyH_take (i := 20) (oi := _) (v := ?_) rfl (by kernel_rfl) (by kernel_rfl) (by kernel_rfl) (fun _ _ _ h => h) (Or.inl ⟨by kernel_rfl, ?_⟩) (by assumption) ?_
              rotate_left; (intro w' hSw; (try dsimp only at hSw); go_split_ands; go_simp; (try with_reducible rfl))
              try dsimp only [Act.put]
              refine wpAnyH_take (i := 21) (oi := _) (v := ?_) rfl (by kernel_rfl) (by kernel_rfl) (by kernel_rfl) (fun _ _ _ h => h) (Or.inl ⟨by kernel_rfl, ?_⟩) (by assumption) ?_
              rotate_left; (intro w' hSw; (try dsimp only at hSw); go_split_ands; go_simp; (try with_reducible rfl))
              try dsimp only [Act.put]
              refine wpAnyH_take (i := 22) (oi := _) (v := ?_) rfl (by kernel_rfl) (by kernel_rfl) (by kernel_rfl) (fun _ _ _ h => h) (Or.inl ⟨by kernel_rfl, ?_⟩) (by assumption) ?_
              rotate_left; (intro w' hSw; (try dsimp only at hSw); go_split_ands; go_simp; (try with_reducible rfl))
              try dsimp only [Act.put]
              refine wpAnyH_take (i := 23) (oi := _) (v := ?_) rfl (by kernel_rfl) (by kernel_rfl) (by kernel_rfl) (fun _ _ _ h => h) (Or.inl ⟨by kernel_rfl, ?_⟩) (by assumption) ?_
              rotate_left; (intro w' hSw; (try dsimp only at hSw); go_split_ands; go_simp; (try with_reducible rfl))
              try dsimp only [Act.put]
              refine wpAnyH_take (i := 24) (oi := _) (v := ?_) rfl (by kernel_rfl) (by kernel_rfl) (by kernel_rfl) (fun _ _ _ h => h) (Or.inl ⟨by kernel_rfl, ?_⟩) (by assumption) ?_
              rotate_left; (intro w' hSw; (try dsimp only at hSw); go_split_ands; go_simp; (try with_reducible rfl))
              try dsimp only [Act.put]
              refine wpAnyH_take (i := 25) (oi := _) (v := ?_) rfl (by kernel_rfl) (by kernel_rfl) (by kernel_rfl) (fun _ _ _ h => h) (Or.inl ⟨by kernel_rfl, ?_⟩) (by assumption) ?_
              rotate_left; (intro w' hSw; (try dsimp only at hSw); go_split_ands; go_simp; (try with_reducible rfl))
              try dsimp only [Act.put]
              refine wpAnyH_take (i := 26) (oi := _) (v := ?_) rfl (by kernel_rfl) (by kernel_rfl) (by kernel_rfl) (fun _ _ _ h => h) (Or.inl ⟨by kernel_rfl, ?_⟩) (by assumption) ?_
              rotate_left; (intro w' hSw; (try dsimp only at hSw); go_split_ands; go_simp; (try with_reducible rfl))
              try dsimp only [Act.put]
              refine wpAnyH_take (i := 27) (oi := _) (v := ?_) rfl (by kernel_rfl) (by kernel_rfl) (by kernel_rfl) (fun _ _ _ h => h) (Or.inl ⟨by kernel_rfl, ?_⟩) (by assumption) ?_
              rotate_left; (intro w' hSw; (try dsimp only at hSw); go_split_ands; go_simp; (try with_reducible rfl))
              try dsimp only [Act.put]
              refine wpAnyH_take (i := 28) (oi := _) (v := ?_) rfl (by kernel_rfl) (by kernel_rfl) (by kernel_rfl) (fun _ _ _ h => h) (Or.inl ⟨by kernel_rfl, ?_⟩) (by assumption) ?_
              rotate_left; (intro w' hSw; (try dsimp only at hSw); go_split_ands; go_simp; (try with_reducible rfl))
              try dsimp only [Act.put]
              refine wpAnyH_take (i := 29) (oi := _) (v := ?_) rfl (by kernel_rfl) (by kernel_rfl) (by kernel_rfl) (fun _ _ _ h => h) (Or.inl ⟨by kernel_rfl, ?_⟩) (by assumption) ?_
              rotate_left; (intro w' hSw; (try dsimp only at hSw); go_split_ands; go_simp; (try with_reducible rfl))
              try dsimp only [Act.put]
              refine wpAnyH_take (i := 30) (oi := _) (v := ?_) rfl (by kernel_rfl) (by kernel_rfl) (by kernel_rfl) (fun _ _ _ h => h) (Or.inl ⟨by kernel_rfl, ?_⟩) (by assumption) ?_
              rotate_left; (intro w' hSw; (try dsimp only at hSw); go_split_ands; go_simp; (try with_reducible rfl))
              try dsimp only [Act.put]
              refine wpAnyH_take (i := 31) (oi := _) (v := ?_) rfl (by kernel_rfl) (by kernel_rfl) (by kernel_rfl) (fun _ _ _ h => h) (Or.inl ⟨by kernel_rfl, ?_⟩) (by assumption) ?_
              rotate_left; (intro w' hSw; (try dsimp only at hSw); go_split_ands; go_simp; (try with_reducible rfl))
              try dsimp only [Act.put]
              refine wpAnyH_take (i := 32) (oi := _) (v := ?_) rfl (by kernel_rfl) (by kernel_rfl) (by kernel_rfl) (fun _ _ _ h => h) (Or.inl ⟨by kernel_rfl, ?_⟩) (by assumption) ?_
              rotate_left; (intro w' hSw; (try dsimp only at hSw); go_split_ands; go_simp; (try with_reducible rfl))
              try dsimp only [Act.put]
              refine wpAnyH_ready (rs := [33]) (by kernel_rfl) (by simp) ?_
              refine AllReadyH.cons (o := _) rfl (fun K hK => ?_) AllReadyH.nil
              go_simp
              go_at_call 30
              refine (IsAround_any (some ⟨b, off, none⟩) m1 d1 zs (p : Int) (a : Int) (by omega) Vd (I1.out.new (HW.out.trans ND.out))).mono ?_
              rw [ar.out]
              rintro e w7 ⟨rfl, N7⟩
              have N33_ := Lib.hid (ND.out.trans N7)
              clear N7
              go_wp2_with fail
              refine hK.out _ _ (KF.out _ N33_.out) (fun hH33 => ?_)
              clear hK K
              try dsimp only [Act.put]
              refine wpAnyH_take (i := 34) (oi := _) (v := ?_) rfl (by kernel_rfl) (by kernel_rfl) (by kernel_rfl) (fun _ _ _ h => h) (Or.inl ⟨by kernel_rfl, ?_⟩) (by assumption) ?_
              rotate_left; (intro w' hSw; (try dsimp only at hSw); go_split_ands; go_simp; (try with_reducible rfl))
              try dsimp only [Act.put]
              refine wpAnyH_take (i := 35) (oi := _) (v := ?_) rfl (by kernel_rfl) (by kernel_rfl) (by kernel_rfl) (fun _ _ _ h => h) (Or.inl ⟨by kernel_rfl, ?_⟩) (by assumption) ?_
              rotate_left; (intro w' hSw; (try dsimp only at hSw); go_split_ands; go_simp; (try with_reducible rfl))
              try dsimp only [Act.put]
              refine wpAnyH_take (i := 36) (oi := _) (v := ?_) rfl (by kernel_rfl) (by kernel_rfl) (by kernel_rfl) (fun _ _ _ h => h) (Or.inl ⟨by kernel_rfl, ?_⟩) (by assumption) ?_
              rotate_left; (intro w' hSw; (try dsimp only at hSw); go_split_ands; go_simp; (try with_reducible rfl))
              try dsimp only [Act.put]
              refine wpAnyH_take (i := 37) (oi := _) (v := ?_) rfl (by kernel_rfl) (by kernel_rfl) (by kernel_rfl) (fun _ _ _ h => h) (Or.inl ⟨by kernel_rfl, ?_⟩) (by assumption) ?_
              rotate_left; (intro w' hSw; (try dsimp only at hSw); go_split_ands; go_simp; (try with_reducible rfl))
              try dsimp only [Act.put]
              refine wpAnyH_take (i := 38) (oi := _) (v := ?_) rfl (by kernel_rfl) (by kernel_rfl) (by kernel_rfl) (fun _ _ _ h => h) (Or.inl ⟨by kernel_rfl, ?_⟩) (by assumption) ?_
              rotate_left; (intro w' hSw; (try dsimp only at hSw); go_split_ands; go_simp; (try with_reducible rfl))
              try dsimp only [Act.put]
              refine wpAnyH_take (i := 39) (oi := _) (v := ?_) rfl (by kernel_rfl) (by kernel_rfl) (by kernel_rfl) (fun _ _ _ h => h) (Or.inl ⟨by kernel_rfl, ?_⟩) (by assumption) ?_
              rotate_left; (intro w' hSw; (try dsimp only at hSw); go_split_ands; go_simp; (try with_reducible rfl))
              try dsimp only [Act.put]
              refine wpAnyH_take (i := 40) (oi := _) (v := ?_) rfl (by kernel_rfl) (by kernel_rfl) (by kernel_rfl) (fun _ _ _ h => h) (Or.inl ⟨by kernel_rfl, ?_⟩) (by assumption) ?_
              rotate_left; (intro w' hSw; (try dsimp only at hSw); go_split_ands; go_simp; (try with_reducible rfl))
              try dsimp only [Act.put]
              refine wpAnyH_take (i := 41) (oi := _) (v := ?_) rfl (by kernel_rfl) (by kernel_rfl) (by kernel_rfl) (fun _ _ _ h => h) (Or.inl ⟨by kernel_rfl, ?_⟩) (by assumption) ?_
              rotate_left; (intro w' hSw; (try dsimp only at hSw); go_split_ands; go_simp; (try with_reducible rfl))
              try dsimp only [Act.put]
              refine wpAnyH_take (i := 42) (oi := _) (v := ?_) rfl (by kernel_rfl) (by kernel_rfl) (by kernel_rfl) (fun _ _ _ h => h) (Or.inl ⟨by kernel_rfl, ?_⟩) (by assumption) ?_
              rotate_left; (intro w' hSw; (try dsimp only at hSw); go_split_ands; go_simp; (try with_reducible rfl))
              try dsimp only [Act.put]
              refine wpAnyH_take (i := 43) (oi := _) (v := ?_) rfl (by kernel_rfl) (by kernel_rfl) (by kernel_rfl) (fun _ _ _ h => h) (Or.inl ⟨by kernel_rfl, ?_⟩) (by assumption) ?_
              rotate_left; (intro w' hSw; (try dsimp only at hSw); go_split_ands; go_simp; (try with_reducible rfl))
              try dsimp only [Act.put]
              refine wpAnyH_take (i := 44) (oi := _) (v := ?_) rfl (by kernel_rfl) (by kernel_rfl) (by kernel_rfl) (fun _ _ _ h => h) (Or.inl ⟨by kernel_rfl, ?_⟩) (by assumption) ?_
              rotate_left; (intro w' hSw; (try dsimp only at hSw); go_split_ands; go_simp; (try with_reducible rfl))
              try dsimp only [Act.put]
              refine wpAnyH_take (i := 45) (oi := _) (v := ?_) rfl (by kernel_rfl) (by kernel_rfl) (by kernel_rfl) (fun _ _ _ h => h) (Or.inl ⟨by kernel_rfl, ?_⟩) (by assumption) ?_
              rotate_left; (intro w' hSw; (try dsimp only at hSw); go_split_ands; go_simp; (try with_reducible rfl))
              try dsimp only [Act.put]
              refine wpAnyH_take (i := 46) (oi := _) (v := ?_) rfl (by kernel_rfl) (by kernel_rfl) (by kernel_rfl) (fun _ _ _ h => h) (Or.inl ⟨by kernel_rfl, ?_⟩) (by assumption) ?_
              rotate_left; (intro w' hSw; (try dsimp only at hSw); go_split_ands; go_simp; (try with_reducible rfl))
              try dsimp only [Act.put]
              refine wpAnyH_done (by kernel_rfl) ?_ _
              refine NoPanic.normal ?_
              go_simp
              go_wp2
              go_roundw
              case rel => exact ⟨j + 1, by omega, by go_num, Lib.hid (HW.out.trans N33_.out)⟩
              case measure => simp [intOf]; omega
            · rw [hna] at ar
              have KF := Lib.hid (fun X (hX : New wr X) => (⟨gt.out X (HW.out.trans hX), g1p.out X (HW.out.trans hX), g2p.out X (HW.out.trans hX)⟩ : X.cell? ⟨b, off + j * 9, none⟩ = some (.int .i64 (p : Int)) ∧ (X.cell? ⟨p1, o1 + p * 4, none⟩ = some (.int .i64 r0) ∧ X.cell? ⟨p1, o1 + p * 4 + 1, none⟩ = some (.int .i64 r1) ∧ X.cell? ⟨p1, o1 + p * 4 + 2, none⟩ = some (.int .i64 r2) ∧ X.cell? ⟨p1, o1 + p * 4 + 3, none⟩ = some (.int .i64 r3)) ∧ X.cell? ⟨p2, o2 + p * 4, none⟩ = some (.int .i64 r0) ∧ X.cell? ⟨p2, o2 + p * 4 + 1, none⟩ = some (.int .i64 r1) ∧ X.cell? ⟨p2, o2 + p * 4 + 2, none⟩ = some (.int .i64 r2) ∧ X.cell? ⟨p2, o2 + p * 4 + 3, none⟩ = some (.int .i64 r3)))
              clear hna heq
              go_wp2
              refine wp_region_noPanic ?_
              refine wp_region_held_drew (S := fun w' => w'.cell? ⟨b, off + j * 9, none⟩ = some (.int .i64 (p : Int)) ∧ (w'.cell? ⟨p1, o1 + p * 4, none⟩ = some (.int .i64 r0) ∧ w'.cell? ⟨p1, o1 + p * 4 + 1, none⟩ = some (.int .i64 r1) ∧ w'.cell? ⟨p1, o1 + p * 4 + 2, none⟩ = some (.int .i64 r2) ∧ w'.cell? ⟨p1, o1 + p * 4 + 3, none⟩ = some (.int .i64 r3)) ∧ w'.cell? ⟨p2, o2 + p * 4, none⟩ = some (.int .i64 r0) ∧ w'.cell? ⟨p2, o2 + p * 4 + 1, none⟩ = some (.int .i64 r1) ∧ w'.cell? ⟨p2, o2 + p * 4 + 2, none⟩ = some (.int .i64 r2) ∧ w'.cell? ⟨p2, o2 + p * 4 + 3, none⟩ = some (.int .i64 r3)) (by kernel_rfl) (KF.out _ ND.out) (fun hHeld => ?_)
              generalize wr.drew = Vd at ND hHeld ⊢
              refine wpAnyH_take (i := 0) (oi := _) (v := ?_) rfl (by kernel_rfl) (by kernel_rfl) (by kernel_rfl) (fun _ _ _ h => h) (Or.inl ⟨by kernel_rfl, ?_⟩) (by assumption) ?_
              rotate_left; (intro w' hSw; (try dsimp only at hSw); go_split_ands; go_simp; (try with_reducible rfl))
              try dsimp only [Act.put]
              refine wpAnyH_take (i := 1) (oi := _) (v := ?_) rfl (by kernel_rfl) (by kernel_rfl) (by kernel_rfl) (fun _ _ _ h => h) (Or.inl ⟨by kernel_rfl, ?_⟩) (by assumption) ?_
              rotate_left; (intro w' hSw; (try dsimp only at hSw); go_split_ands; go_simp; (try with_reducible rfl))
              try dsimp only [Act.put]
              refine wpAnyH_take (i := 2) (oi := _) (v := ?_) rfl (by kernel_rfl) (by kernel_rfl) (by kernel_rfl) (fun _ _ _ h => h) (Or.inl ⟨by kernel_rfl, ?_⟩) (by assumption) ?_
              rotate_left; (intro w' hSw; (try dsimp only at hSw); go_split_ands; go_simp; (try with_reducible rfl))
              try dsimp only [Act.put]
              refine wpAnyH_take (i := 3) (oi := _) (v := ?_) rfl (by kernel_rfl) (by kernel_rfl) (by kernel_rfl) (fun _ _ _ h => h) (Or.inl ⟨by kernel_rfl, ?_⟩) (by assumption) ?_
              rotate_left; (intro w' hSw; (try dsimp only at hSw); go_split_ands; go_simp; (try with_reducible rfl))
              try dsimp only [Act.put]
              refine wpAnyH_take (i := 4) (oi := _) (v := ?_) rfl (by kernel_rfl) (by kernel_rfl) (by kernel_rfl) (fun _ _ _ h => h) (Or.inl ⟨by kernel_rfl, ?_⟩) (by assumption) ?_
              rotate_left; (intro w' hSw; (try dsimp only at hSw); go_split_ands; go_simp; (try with_reducible rfl))
              try dsimp only [Act.put]
              refine wpAnyH_take (i := 5) (oi := _) (v := ?_) rfl (by kernel_rfl) (by kernel_rfl) (by kernel_rfl) (fun _ _ _ h => h) (Or.inl ⟨by kernel_rfl, ?_⟩) (by assumption) ?_
              rotate_left; (intro w' hSw; (try dsimp only at hSw); go_split_ands; go_simp; (try with_reducible rfl))
              try dsimp only [Act.put]
              refine wpAnyH_take (i := 6) (oi := _) (v := ?_) rfl (by kernel_rfl) (by kernel_rfl) (by kernel_rfl) (fun _ _ _ h => h) (Or.inl ⟨by kernel_rfl, ?_⟩) (by assumption) ?_
              rotate_left; (intro w' hSw; (try dsimp only at hSw); go_split_ands; go_simp; (try with_reducible rfl))
              try dsimp only [Act.put]
              refine wpAnyH_take (i := 7) (oi := _) (v := ?_) rfl (by kernel_rfl) (by kernel_rfl) (by kernel_rfl) (fun _ _ _ h => h) (Or.inl ⟨by kernel_rfl, ?_⟩) (by assumption) ?_
              rotate_left; (intro w' hSw; (try dsimp only at hSw); go_split_ands; go_simp; (try with_reducible rfl))
              try dsimp only [Act.put]
              refine wpAnyH_take (i := 8) (oi := _) (v := ?_) rfl (by kernel_rfl) (by kernel_rfl) (by kernel_rfl) (fun _ _ _ h => h) (Or.inl ⟨by kernel_rfl, ?_⟩) (by assumption) ?_
              rotate_left; (intro w' hSw; (try dsimp only at hSw); go_split_ands; go_simp; (try with_reducible rfl))
              try dsimp only [Act.put]
              refine wpAnyH_take (i := 9) (oi := _) (v := ?_) rfl (by kernel_rfl) (by kernel_rfl) (by kernel_rfl) (fun _ _ _ h => h) (Or.inl ⟨by kernel_rfl, ?_⟩) (by assumption) ?_
              rotate_left; (intro w' hSw; (try dsimp only at hSw); go_split_ands; go_simp; (try with_reducible rfl))
              try dsimp only [Act.put]
              refine wpAnyH_take (i := 10) (oi := _) (v := ?_) rfl (by kernel_rfl) (by kernel_rfl) (by kernel_rfl) (fun _ _ _ h => h) (Or.inl ⟨by kernel_rfl, ?_⟩) (by assumption) ?_
              rotate_left; (intro w' hSw; (try dsimp only at hSw); go_split_ands; go_simp; (try with_reducible rfl))
              try dsimp only [Act.put]
              refine wpAnyH_take (i := 11) (oi := _) (v := ?_) rfl (by kernel_rfl) (by kernel_rfl) (by kernel_rfl) (fun _ _ _ h => h) (Or.inl ⟨by kernel_rfl, ?_⟩) (by assumption) ?_
              rotate_left; (intro w' hSw; (try dsimp only at hSw); go_split_ands; go_simp; (try with_reducible rfl))
              try dsimp only [Act.put]
              refine wpAnyH_take (i := 12) (oi := _) (v := ?_) rfl (by kernel_rfl) (by kernel_rfl) (by kernel_rfl) (fun _ _ _ h => h) (Or.inl ⟨by kernel_rfl, ?_⟩) (by assumption) ?_
              rotate_left; (intro w' hSw; (try dsimp only at hSw); go_split_ands; go_simp; (try with_reducible rfl))
              try dsimp only [Act.put]
              refine wpAnyH_take (i := 13) (oi := _) (v := ?_) rfl (by kernel_rfl) (by kernel_rfl) (by kernel_rfl) (fun _ _ _ h => h) (Or.inl ⟨by kernel_rfl, ?_⟩) (by assumption) ?_
              rotate_left; (intro w' hSw; (try dsimp only at hSw); go_split_ands; go_simp; (try with_reducible rfl))
              try dsimp only [Act.put]
              refine wpAnyH_take (i := 14) (oi := _) (v := ?_) rfl (by kernel_rfl) (by kernel_rfl) (by kernel_rfl) (fun _ _ _ h => h) (Or.inl ⟨by kernel_rfl, ?_⟩) (by assumption) ?_
              rotate_left; (intro w' hSw; (try dsimp only at hSw); go_split_ands; go_simp; (try with_reducible rfl))
              try dsimp only [Act.put]
              refine wpAnyH_take (i := 15) (oi := _) (v := ?_) rfl (by kernel_rfl) (by kernel_rfl) (by kernel_rfl) (fun _ _ _ h => h) (Or.inl ⟨by kernel_rfl, ?_⟩) (by assumption) ?_
              rotate_left; (intro w' hSw; (try dsimp only at hSw); go_split_ands; go_simp; (try with_reducible rfl))
              try dsimp only [Act.put]
              refine wpAnyH_take (i := 16) (oi := _) (v := ?_) rfl (by kernel_rfl) (by kernel_rfl) (by kernel_rfl) (fun _ _ _ h => h) (Or.inl ⟨by kernel_rfl, ?_⟩) (by assumption) ?_
              rotate_left; (intro w' hSw; (try dsimp only at hSw); go_split_ands; go_simp; (try with_reducible rfl))
              try dsimp only [Act.put]
              refine wpAnyH_take (i := 17) (oi := _) (v := ?_) rfl (by kernel_rfl) (by kernel_rfl) (by kernel_rfl) (fun _ _ _ h => h) (Or.inl ⟨by kernel_rfl, ?_⟩) (by assumption) ?_
              rotate_left; (intro w' hSw; (try dsimp only at hSw); go_split_ands; go_simp; (try with_reducible rfl))
              try dsimp only [Act.put]
              refine wpAnyH_take (i := 18) (oi := _) (v := ?_) rfl (by kernel_rfl) (by kernel_rfl) (by kernel_rfl) (fun _ _ _ h => h) (Or.inl ⟨by kernel_rfl, ?_⟩) (by assumption) ?_
              rotate_left; (intro w' hSw; (try dsimp only at hSw); go_split_ands; go_simp; (try with_reducible rfl))
              try dsimp only [Act.put]
              refine wpAnyH_take (i := 19) (oi := _) (v := ?_) rfl (by kernel_rfl) (by kernel_rfl) (by kernel_rfl) (fun _ _ _ h => h) (Or.inl ⟨by kernel_rfl, ?_⟩) (by assumption) ?_
              rotate_left; (intro w' hSw; (try dsimp only at hSw); go_split_ands; go_simp; (try with_reducible rfl))
              try dsimp only [Act.put]
              refine wpAnyH_take (i := 20) (oi := _) (v := ?_) rfl (by kernel_rfl) (by kernel_rfl) (by kernel_rfl) (fun _ _ _ h => h) (Or.inl ⟨by kernel_rfl, ?_⟩) (by assumption) ?_
              rotate_left; (intro w' hSw; (try dsimp only at hSw); go_split_ands; go_simp; (try with_reducible rfl))
              try dsimp only [Act.put]
              refine wpAnyH_take (i := 21) (oi := _) (v := ?_) rfl (by kernel_rfl) (by kernel_rfl) (by kernel_rfl) (fun _ _ _ h => h) (Or.inl ⟨by kernel_rfl, ?_⟩) (by assumption) ?_
              rotate_left; (intro w' hSw; (try dsimp only at hSw); go_split_ands; go_simp; (try with_reducible rfl))
              try dsimp only [Act.put]
              refine wpAnyH_take (i := 22) (oi := _) (v := ?_) rfl (by kernel_rfl) (by kernel_rfl) (by kernel_rfl) (fun _ _ _ h => h) (Or.inl ⟨by kernel_rfl, ?_⟩) (by assumption) ?_
              rotate_left; (intro w' hSw; (try dsimp only at hSw); go_split_ands; go_simp; (try with_reducible rfl))
              try dsimp only [Act.put]
              refine wpAnyH_take (i := 23) (oi := _) (v := ?_) rfl (by kernel_rfl) (by kernel_rfl) (by kernel_rfl) (fun _ _ _ h => h) (Or.inl ⟨by kernel_rfl, ?_⟩) (by assumption) ?_
              rotate_left; (intro w' hSw; (try dsimp only at hSw); go_split_ands; go_simp; (try with_reducible rfl))
              try dsimp only [Act.put]
              refine wpAnyH_take (i := 24) (oi := _) (v := ?_) rfl (by kernel_rfl) (by kernel_rfl) (by kernel_rfl) (fun _ _ _ h => h) (Or.inl ⟨by kernel_rfl, ?_⟩) (by assumption) ?_
              rotate_left; (intro w' hSw; (try dsimp only at hSw); go_split_ands; go_simp; (try with_reducible rfl))
              try dsimp only [Act.put]
              refine wpAnyH_take (i := 25) (oi := _) (v := ?_) rfl (by kernel_rfl) (by kernel_rfl) (by kernel_rfl) (fun _ _ _ h => h) (Or.inl ⟨by kernel_rfl, ?_⟩) (by assumption) ?_
              rotate_left; (intro w' hSw; (try dsimp only at hSw); go_split_ands; go_simp; (try with_reducible rfl))
              try dsimp only [Act.put]
              refine wpAnyH_take (i := 26) (oi := _) (v := ?_) rfl (by kernel_rfl) (by kernel_rfl) (by kernel_rfl) (fun _ _ _ h => h) (Or.inl ⟨by kernel_rfl, ?_⟩) (by assumption) ?_
              rotate_left; (intro w' hSw; (try dsimp only at hSw); go_split_ands; go_simp; (try with_reducible rfl))
              try dsimp only [Act.put]
              refine wpAnyH_take (i := 27) (oi := _) (v := ?_) rfl (by kernel_rfl) (by kernel_rfl) (by kernel_rfl) (fun _ _ _ h => h) (Or.inl ⟨by kernel_rfl, ?_⟩) (by assumption) ?_
              rotate_left; (intro w' hSw; (try dsimp only at hSw); go_split_ands; go_simp; (try with_reducible rfl))
              try dsimp only [Act.put]
              refine wpAnyH_take (i := 28) (oi := _) (v := ?_) rfl (by kernel_rfl) (by kernel_rfl) (by kernel_rfl) (fun _ _ _ h => h) (Or.inl ⟨by kernel_rfl, ?_⟩) (by assumption) ?_
              rotate_left; (intro w' hSw; (try dsimp only at hSw); go_split_ands; go_simp; (try with_reducible rfl))
              try dsimp only [Act.put]
              refine wpAnyH_take (i := 29) (oi := _) (v := ?_) rfl (by kernel_rfl) (by kernel_rfl) (by kernel_rfl) (fun _ _ _ h => h) (Or.inl ⟨by kernel_rfl, ?_⟩) (by assumption) ?_
              rotate_left; (intro w' hSw; (try dsimp only at hSw); go_split_ands; go_simp; (try with_reducible rfl))
              try dsimp only [Act.put]
              refine wpAnyH_take (i := 30) (oi := _) (v := ?_) rfl (by kernel_rfl) (by kernel_rfl) (by kernel_rfl) (fun _ _ _ h => h) (Or.inl ⟨by kernel_rfl, ?_⟩) (by assumption) ?_
              rotate_left; (intro w' hSw; (try dsimp only at hSw); go_split_ands; go_simp; (try with_reducible rfl))
              try dsimp only [Act.put]
              refine wpAnyH_take (i := 31) (oi := _) (v := ?_) rfl (by kernel_rfl) (by kernel_rfl) (by kernel_rfl) (fun _ _ _ h => h) (Or.inl ⟨by kernel_rfl, ?_⟩) (by assumption) ?_
              rotate_left; (intro w' hSw; (try dsimp only at hSw); go_split_ands; go_simp; (try with_reducible rfl))
              try dsimp only [Act.put]
              refine wpAnyH_take (i := 32) (oi := _) (v := ?_) rfl (by kernel_rfl) (by kernel_rfl) (by kernel_rfl) (fun _ _ _ h => h) (Or.inl ⟨by kernel_rfl, ?_⟩) (by assumption) ?_
              rotate_left; (intro w' hSw; (try dsimp only at hSw); go_split_ands; go_simp; (try with_reducible rfl))
              try dsimp only [Act.put]
              refine wpAnyH_ready (rs := [33]) (by kernel_rfl) (by simp) ?_
              refine AllReadyH.cons (o := _) rfl (fun K hK => ?_) AllReadyH.nil
              go_simp
              go_at_call 30
              refine (IsAround_any (some ⟨b, off, none⟩) m1 d1 zs (p : Int) (a : Int) (by omega) Vd (I1.out.new (HW.out.trans ND.out))).mono ?_
              rw [ar.out]
              rintro e w7 ⟨rfl, N7⟩
              have N33_ := Lib.hid (ND.out.trans N7)
              clear N7
              go_wp2_with fail
              refine hK.out _ _ (KF.out _ N33_.out) (fun hH33 => ?_)
              clear hK K
              try dsimp only [Act.put]
              refine wpAnyH_take (i := 34) (oi := _) (v := ?_) rfl (by kernel_rfl) (by kernel_rfl) (by kernel_rfl) (fun _ _ _ h => h) (Or.inl ⟨by kernel_rfl, ?_⟩) (by assumption) ?_
              rotate_left; (intro w' hSw; (try dsimp only at hSw); go_split_ands; go_simp; (try with_reducible rfl))
              try dsimp only [Act.put]
              refine wpAnyH_take (i := 35) (oi := _) (v := ?_) rfl (by kernel_rfl) (by kernel_rfl) (by kernel_rfl) (fun _ _ _ h => h) (Or.inl ⟨by kernel_rfl, ?_⟩) (by assumption) ?_
              rotate_left; (intro w' hSw; (try dsimp only at hSw); go_split_ands; go_simp; (try with_reducible rfl))
              try dsimp only [Act.put]
              refine wpAnyH_take (i := 36) (oi := _) (v := ?_) rfl (by kernel_rfl) (by kernel_rfl) (by kernel_rfl) (fun _ _ _ h => h) (Or.inl ⟨by kernel_rfl, ?_⟩) (by assumption) ?_
              rotate_left; (intro w' hSw; (try dsimp only at hSw); go_split_ands; go_simp; (try with_reducible rfl))
              try dsimp only [Act.put]
              refine wpAnyH_take (i := 37) (oi := _) (v := undef) rfl (by kernel_rfl) (by kernel_rfl) (by kernel_rfl) (fun _ _ _ h => h) (Or.inr ⟨by kernel_rfl, rfl⟩) (by assumption) ?_
              try dsimp only [Act.put]
              refine wpAnyH_take (i := 38) (oi := _) (v := undef) rfl (by kernel_rfl) (by kernel_rfl) (by kernel_rfl) (fun _ _ _ h => h) (Or.inr ⟨by kernel_rfl, rfl⟩) (by assumption) ?_
              try dsimp only [Act.put]
              refine wpAnyH_take (i := 39) (oi := _) (v := undef) rfl (by kernel_rfl) (by kernel_rfl) (by kernel_rfl) (fun _ _ _ h => h) (Or.inr ⟨by kernel_rfl, rfl⟩) (by assumption) ?_
              try dsimp only [Act.put]
              refine wpAnyH_take (i := 40) (oi := _) (v := undef) rfl (by kernel_rfl) (by kernel_rfl) (by kernel_rfl) (fun _ _ _ h => h) (Or.inr ⟨by kernel_rfl, rfl⟩) (by assumption) ?_
              try dsimp only [Act.put]
              refine wpAnyH_take (i := 41) (oi := _) (v := undef) rfl (by kernel_rfl) (by kernel_rfl) (by kernel_rfl) (fun _ _ _ h => h) (Or.inr ⟨by kernel_rfl, rfl⟩) (by assumption) ?_
              try dsimp only [Act.put]
              refine wpAnyH_take (i := 42) (oi := _) (v := undef) rfl (by kernel_rfl) (by kernel_rfl) (by kernel_rfl) (fun _ _ _ h => h) (Or.inr ⟨by kernel_rfl, rfl⟩) (by assumption) ?_
              try dsimp only [Act.put]
              refine wpAnyH_take (i := 43) (oi := _) (v := undef) rfl (by kernel_rfl) (by kernel_rfl) (by kernel_rfl) (fun _ _ _ h => h) (Or.inr ⟨by kernel_rfl, rfl⟩) (by assumption) ?_
              try dsimp only [Act.put]
              refine wpAnyH_take (i := 44) (oi := _) (v := undef) rfl (by kernel_rfl) (by kernel_rfl) (by kernel_rfl) (fun _ _ _ h => h) (Or.inr ⟨by kernel_rfl, rfl⟩) (by assumption) ?_
              try dsimp only [Act.put]
              refine wpAnyH_take (i := 45) (oi := _) (v := undef) rfl (by kernel_rfl) (by kernel_rfl) (by kernel_rfl) (fun _ _ _ h => h) (Or.inr ⟨by kernel_rfl, rfl⟩) (by assumption) ?_
              try dsimp only [Act.put]
              refine wpAnyH_take (i := 46) (oi := _) (v := ?_) rfl (by kernel_rfl) (by kernel_rfl) (by kernel_rfl) (fun _ _ _ h => h) (Or.inl ⟨by kernel_rfl, ?_⟩) (by assumption) ?_
              rotate_left; (intro w' hSw; (try dsimp only at hSw); go_split_ands; go_simp; (try with_reducible rfl))
              try dsimp only [Act.put]
              refine wpAnyH_done (by kernel_rfl) ?_ _
              refine NoPanic.normal ?_
              go_simp
              go_wp2
              go_roundw
              case rel => exact ⟨j + 1, by omega, by go_num, Lib.hid (HW.out.trans N33_.out)⟩
              case measure => simp [intOf]; omega
          · have hd : ¬ (r0 = q0 ∧ r1 = q1 ∧ r2 = q2 ∧ r3 = q3) := fun e => heq (by obtain ⟨e0, e1, e2, e3⟩ := e; rw [e0, e1, e2, e3])
            have hd1 := fun V => (eqr_rect r0 r1 r2 r3 q0 q1 q2 q3 V).trans (by rw [decide_eq_false hd] : _ = Result.ok (.bool false) V)
            have KF := Lib.hid (fun X (hX : New wr X) => (⟨gt.out X (HW.out.trans hX), g1p.out X (HW.out.trans hX), g2p.out X (HW.out.trans hX)⟩ : X.cell? ⟨b, off + j * 9, none⟩ = some (.int .i64 (p : Int)) ∧ (X.cell? ⟨p1, o1 + p * 4, none⟩ = some (.int .i64 q0) ∧ X.cell? ⟨p1, o1 + p * 4 + 1, none⟩ = some (.int .i64 q1) ∧ X.cell? ⟨p1, o1 + p * 4 + 2, none⟩ = some (.int .i64 q2) ∧ X.cell? ⟨p1, o1 + p * 4 + 3, none⟩ = some (.int .i64 q3)) ∧ X.cell? ⟨p2, o2 + p * 4, none⟩ = some (.int .i64 r0) ∧ X.cell? ⟨p2, o2 + p * 4 + 1, none⟩ = some (.int .i64 r1) ∧ X.cell? ⟨p2, o2 + p * 4 + 2, none⟩ = some (.int .i64 r2) ∧ X.cell? ⟨p2, o2 + p * 4 + 3, none⟩ = some (.int .i64 r3)))
            clear hd heq
            go_wp2
            refine wp_region_noPanic ?_
            refine wp_region_held_drew (S := fun w' => w'.cell? ⟨b, off + j * 9, none⟩ = some (.int .i64 (p : Int)) ∧ (w'.cell? ⟨p1, o1 + p * 4, none⟩ = some (.int .i64 q0) ∧ w'.cell? ⟨p1, o1 + p * 4 + 1, none⟩ = some (.int .i64 q1) ∧ w'.cell? ⟨p1, o1 + p * 4 + 2, none⟩ = some (.int .i64 q2) ∧ w'.cell? ⟨p1, o1 + p * 4 + 3, none⟩ = some (.int .i64 q3)) ∧ w'.cell? ⟨p2, o2 + p * 4, none⟩ = some (.int .i64 r0) ∧ w'.cell? ⟨p2, o2 + p * 4 + 1, none⟩ = some (.int .i64 r1) ∧ w'.cell? ⟨p2, o2 + p * 4 + 2, none⟩ = some (.int .i64 r2) ∧ w'.cell? ⟨p2, o2 + p * 4 + 3, none⟩ = some (.int .i64 r3)) (by kernel_rfl) (KF.out _ ND.out) (fun hHeld => ?_)
            generalize wr.drew = Vd at ND hHeld ⊢
            refine wpAnyH_take (i := 0) (oi := _) (v := ?_) rfl (by kernel_rfl) (by kernel_rfl) (by kernel_rfl) (fun _ _ _ h => h) (Or.inl ⟨by kernel_rfl, ?_⟩) (by assumption) ?_
            rotate_left; (intro w' hSw; (try dsimp only at hSw); go_split_ands; go_simp; (try with_reducible rfl))
            try dsimp only [Act.put]
            refine wpAnyH_take (i := 1) (oi := _) (v := ?_) rfl (by kernel_rfl) (by kernel_rfl) (by kernel_rfl) (fun _ _ _ h => h) (Or.inl ⟨by kernel_rfl, ?_⟩) (by assumption) ?_
            rotate_left; (intro w' hSw; (try dsimp only at hSw); go_split_ands; go_simp; (try with_reducible rfl))
            try dsimp only [Act.put]
            refine wpAnyH_take (i := 2) (oi := _) (v := ?_) rfl (by kernel_rfl) (by kernel_rfl) (by kernel_rfl) (fun _ _ _ h => h) (Or.inl ⟨by kernel_rfl, ?_⟩) (by assumption) ?_
            rotate_left; (intro w' hSw; (try dsimp only at hSw); go_split_ands; go_simp; (try with_reducible rfl))
            try dsimp only [Act.put]
            refine wpAnyH_take (i := 3) (oi := _) (v := ?_) rfl (by kernel_rfl) (by kernel_rfl) (by kernel_rfl) (fun _ _ _ h => h) (Or.inl ⟨by kernel_rfl, ?_⟩) (by assumption) ?_
            rotate_left; (intro w' hSw; (try dsimp only at hSw); go_split_ands; go_simp; (try with_reducible rfl))
            try dsimp only [Act.put]
            refine wpAnyH_take (i := 4) (oi := _) (v := ?_) rfl (by kernel_rfl) (by kernel_rfl) (by kernel_rfl) (fun _ _ _ h => h) (Or.inl ⟨by kernel_rfl, ?_⟩) (by assumption) ?_
            rotate_left; (intro w' hSw; (try dsimp only at hSw); go_split_ands; go_simp; (try with_reducible rfl))
            try dsimp only [Act.put]
            refine wpAnyH_take (i := 5) (oi := _) (v := ?_) rfl (by kernel_rfl) (by kernel_rfl) (by kernel_rfl) (fun _ _ _ h => h) (Or.inl ⟨by kernel_rfl, ?_⟩) (by assumption) ?_
            rotate_left; (intro w' hSw; (try dsimp only at hSw); go_split_ands; go_simp; (try with_reducible rfl))
            try dsimp only [Act.put]
            refine wpAnyH_take (i := 6) (oi := _) (v := ?_) rfl (by kernel_rfl) (by kernel_rfl) (by kernel_rfl) (fun _ _ _ h => h) (Or.inl ⟨by kernel_rfl, ?_⟩) (by assumption) ?_
            rotate_left; (intro w' hSw; (try dsimp only at hSw); go_split_ands; go_simp; (try with_reducible rfl))
            try dsimp only [Act.put]
            refine wpAnyH_take (i := 7) (oi := _) (v := ?_) rfl (by kernel_rfl) (by kernel_rfl) (by kernel_rfl) (fun _ _ _ h => h) (Or.inl ⟨by kernel_rfl, ?_⟩) (by assumption) ?_
            rotate_left; (intro w' hSw; (try dsimp only at hSw); go_split_ands; go_simp; (try with_reducible rfl))
            try dsimp only [Act.put]
            refine wpAnyH_take (i := 8) (oi := _) (v := ?_) rfl (by kernel_rfl) (by kernel_rfl) (by kernel_rfl) (fun _ _ _ h => h) (Or.inl ⟨by kernel_rfl, ?_⟩) (by assumption) ?_
            rotate_left; (intro w' hSw; (try dsimp only at hSw); go_split_ands; go_simp; (try with_reducible rfl))
            try dsimp only [Act.put]
            refine wpAnyH_take (i := 9) (oi := _) (v := ?_) rfl (by kernel_rfl) (by kernel_rfl) (by kernel_rfl) (fun _ _ _ h => h) (Or.inl ⟨by kernel_rfl, ?_⟩) (by assumption) ?_
            rotate_left; (intro w' hSw; (try dsimp only at hSw); go_split_ands; go_simp; (try with_reducible rfl))
            try dsimp only [Act.put]
            refine wpAnyH_take (i := 10) (oi := _) (v := ?_) rfl (by kernel_rfl) (by kernel_rfl) (by kernel_rfl) (fun _ _ _ h => h) (Or.inl ⟨by kernel_rfl, ?_⟩) (by assumption) ?_
            rotate_left; (intro w' hSw; (try dsimp only at hSw); go_split_ands; go_simp; (try with_reducible rfl))
            try dsimp only [Act.put]
            refine wpAnyH_take (i := 11) (oi := _) (v := ?_) rfl (by kernel_rfl) (by kernel_rfl) (by kernel_rfl) (fun _ _ _ h => h) (Or.inl ⟨by kernel_rfl, ?_⟩) (by assumption) ?_
            rotate_left; (intro w' hSw; (try dsimp only at hSw); go_split_ands; go_simp; (try with_reducible rfl))
            try dsimp only [Act.put]
            refine wpAnyH_take (i := 12) (oi := _) (v := ?_) rfl (by kernel_rfl) (by kernel_rfl) (by kernel_rfl) (fun _ _ _ h => h) (Or.inl ⟨by kernel_rfl, ?_⟩) (by assumption) ?_
            rotate_left; (intro w' hSw; (try dsimp only at hSw); go_split_ands; go_simp; (try with_reducible rfl))
            try dsimp only [Act.put]
            refine wpAnyH_take (i := 13) (oi := _) (v := ?_) rfl (by kernel_rfl) (by kernel_rfl) (by kernel_rfl) (fun _ _ _ h => h) (Or.inl ⟨by kernel_rfl, ?_⟩) (by assumption) ?_
            rotate_left; (intro w' hSw; (try dsimp only at hSw); go_split_ands; go_simp; (try with_reducible rfl))
            try dsimp only [Act.put]
            refine wpAnyH_take (i := 14) (oi := _) (v := ?_) rfl (by kernel_rfl) (by kernel_rfl) (by kernel_rfl) (fun _ _ _ h => h) (Or.inl ⟨by kernel_rfl, ?_⟩) (by assumption) ?_
            rotate_left; (intro w' hSw; (try dsimp only at hSw); go_split_ands; go_simp; (try with_reducible rfl))
            try dsimp only [Act.put]
            refine wpAnyH_take (i := 15) (oi := _) (v := ?_) rfl (by kernel_rfl) (by kernel_rfl) (by kernel_rfl) (fun _ _ _ h => h) (Or.inl ⟨by kernel_rfl, ?_⟩) (by assumption) ?_
            rotate_left; (intro w' hSw; (try dsimp only at hSw); go_split_ands; go_simp; (try with_reducible rfl))
            try dsimp only [Act.put]
            refine wpAnyH_take (i := 16) (oi := _) (v := ?_) rfl (by kernel_rfl) (by kernel_rfl) (by kernel_rfl) (fun _ _ _ h => h) (Or.inl ⟨by kernel_rfl, ?_⟩) (by assumption) ?_
            rotate_left; (intro w' hSw; (try dsimp only at hSw); go_split_ands; go_simp; (try with_reducible rfl))
            try dsimp only [Act.put]
            refine wpAnyH_take (i := 17) (oi := _) (v := ?_) rfl (by kernel_rfl) (by kernel_rfl) (by kernel_rfl) (fun _ _ _ h => h) (Or.inl ⟨by kernel_rfl, ?_⟩) (by assumption) ?_
            rotate_left; (intro w' hSw; (try dsimp only at hSw); go_split_ands; go_simp; (try with_reducible rfl))
            try dsimp only [Act.put]
            refine wpAnyH_take (i := 18) (oi := _) (v := ?_) rfl (by kernel_rfl) (by kernel_rfl) (by kernel_rfl) (fun _ _ _ h => h) (Or.inl ⟨by kernel_rfl, ?_⟩) (by assumption) ?_
            rotate_left; (intro w' hSw; (try dsimp only at hSw); go_split_ands; go_simp; (try with_reducible rfl))
            try dsimp only [Act.put]
            refine wpAnyH_take (i := 19) (oi := _) (v := ?_) rfl (by kernel_rfl) (by kernel_rfl) (by kernel_rfl) (fun _ _ _ h => h) (Or.inl ⟨by kernel_rfl, ?_⟩) (by assumption) ?_
            rotate_left; (intro w' hSw; (try dsimp only at hSw); go_split_ands; go_simp; (try with_reducible rfl))
            try dsimp only [Act.put]
            refine wpAnyH_take (i := 20) (oi := _) (v := ?_) rfl (by kernel_rfl) (by kernel_rfl) (by kernel_rfl) (fun _ _ _ h => h) (Or.inl ⟨by kernel_rfl, ?_⟩) (by assumption) ?_
            rotate_left; (intro w' hSw; (try dsimp only at hSw); go_split_ands; go_simp; (try with_reducible rfl))
            try dsimp only [Act.put]
            refine wpAnyH_take (i := 21) (oi := _) (v := ?_) rfl (by kernel_rfl) (by kernel_rfl) (by kernel_rfl) (fun _ _ _ h => h) (Or.inl ⟨by kernel_rfl, ?_⟩) (by assumption) ?_
            rotate_left; (intro w' hSw; (try dsimp only at hSw); go_split_ands; go_simp; (try with_reducible rfl))
            try dsimp only [Act.put]
            refine wpAnyH_take (i := 22) (oi := _) (v := ?_) rfl (by kernel_rfl) (by kernel_rfl) (by kernel_rfl) (fun _ _ _ h => h) (Or.inl ⟨by kernel_rfl, ?_⟩) (by assumption) ?_
            rotate_left; (intro w' hSw; (try dsimp only at hSw); go_split_ands; go_simp; (try with_reducible rfl))
            try dsimp only [Act.put]
            refine wpAnyH_take (i := 23) (oi := _) (v := ?_) rfl (by kernel_rfl) (by kernel_rfl) (by kernel_rfl) (fun _ _ _ h => h) (Or.inl ⟨by kernel_rfl, ?_⟩) (by assumption) ?_
            rotate_left; (intro w' hSw; (try dsimp only at hSw); go_split_ands; go_simp; (try with_reducible rfl))
            try dsimp only [Act.put]
            refine wpAnyH_take (i := 24) (oi := _) (v := ?_) rfl (by kernel_rfl) (by kernel_rfl) (by kernel_rfl) (fun _ _ _ h => h) (Or.inl ⟨by kernel_rfl, ?_⟩) (by assumption) ?_
            rotate_left; (intro w' hSw; (try dsimp only at hSw); go_split_ands; go_simp; (try with_reducible rfl))
            try dsimp only [Act.put]
            refine wpAnyH_take (i := 25) (oi := _) (v := ?_) rfl (by kernel_rfl) (by kernel_rfl) (by kernel_rfl) (fun _ _ _ h => h) (Or.inl ⟨by kernel_rfl, ?_⟩) (by assumption) ?_
            rotate_left; (intro w' hSw; (try dsimp only at hSw); go_split_ands; go_simp; (try with_reducible rfl))
            try dsimp only [Act.put]
            refine wpAnyH_take (i := 26) (oi := _) (v := undef) rfl (by kernel_rfl) (by kernel_rfl) (by kernel_rfl) (fun _ _ _ h => h) (Or.inr ⟨by kernel_rfl, rfl⟩) (by assumption) ?_
            try dsimp only [Act.put]
            refine wpAnyH_take (i := 27) (oi := _) (v := undef) rfl (by kernel_rfl) (by kernel_rfl) (by kernel_rfl) (fun _ _ _ h => h) (Or.inr ⟨by kernel_rfl, rfl⟩) (by assumption) ?_
            try dsimp only [Act.put]
            refine wpAnyH_take (i := 28) (oi := _) (v := undef) rfl (by kernel_rfl) (by kernel_rfl) (by kernel_rfl) (fun _ _ _ h => h) (Or.inr ⟨by kernel_rfl, rfl⟩) (by assumption) ?_
            try dsimp only [Act.put]
            refine wpAnyH_take (i := 29) (oi := _) (v := undef) rfl (by kernel_rfl) (by kernel_rfl) (by kernel_rfl) (fun _ _ _ h => h) (Or.inr ⟨by kernel_rfl, rfl⟩) (by assumption) ?_
            try dsimp only [Act.put]
            refine wpAnyH_take (i := 30) (oi := _) (v := undef) rfl (by kernel_rfl) (by kernel_rfl) (by kernel_rfl) (fun _ _ _ h => h) (Or.inr ⟨by kernel_rfl, rfl⟩) (by assumption) ?_
            try dsimp only [Act.put]
            refine wpAnyH_take (i := 31) (oi := _) (v := undef) rfl (by kernel_rfl) (by kernel_rfl) (by kernel_rfl) (fun _ _ _ h => h) (Or.inr ⟨by kernel_rfl, rfl⟩) (by assumption) ?_
            try dsimp only [Act.put]
            refine wpAnyH_take (i := 32) (oi := _) (v := undef) rfl (by kernel_rfl) (by kernel_rfl) (by kernel_rfl) (fun _ _ _ h => h) (Or.inr ⟨by kernel_rfl, rfl⟩) (by assumption) ?_
            try dsimp only [Act.put]
            refine wpAnyH_take (i := 33) (oi := _) (v := undef) rfl (by kernel_rfl) (by kernel_rfl) (by kernel_rfl) (fun _ _ _ h => h) (Or.inr ⟨by kernel_rfl, rfl⟩) (by assumption) ?_
            try dsimp only [Act.put]
            refine wpAnyH_take (i := 34) (oi := _) (v := undef) rfl (by kernel_rfl) (by kernel_rfl) (by kernel_rfl) (fun _ _ _ h => h) (Or.inr ⟨by kernel_rfl, rfl⟩) (by assumption) ?_
            try dsimp only [Act.put]
            refine wpAnyH_take (i := 35) (oi := _) (v := ?_) rfl (by kernel_rfl) (by kernel_rfl) (by kernel_rfl) (fun _ _ _ h => h) (Or.inl ⟨by kernel_rfl, ?_⟩) (by assumption) ?_
            rotate_left; (intro w' hSw; (try dsimp only at hSw); go_split_ands; go_simp; (try with_reducible rfl))
            try dsimp only [Act.put]
            refine wpAnyH_take (i := 36) (oi := _) (v := ?_) rfl (by kernel_rfl) (by kernel_rfl) (by kernel_rfl) (fun _ _ _ h => h) (Or.inl ⟨by kernel_rfl, ?_⟩) (by assumption) ?_
            rotate_left; (intro w' hSw; (try dsimp only at hSw); go_split_ands; go_simp; (try with_reducible rfl))
            try dsimp only [Act.put]
            refine wpAnyH_take (i := 37) (oi := _) (v := undef) rfl (by kernel_rfl) (by kernel_rfl) (by kernel_rfl) (fun _ _ _ h => h) (Or.inr ⟨by kernel_rfl, rfl⟩) (by assumption) ?_
            try dsimp only [Act.put]
            refine wpAnyH_take (i := 38) (oi := _) (v := undef) rfl (by kernel_rfl) (by kernel_rfl) (by kernel_rfl) (fun _ _ _ h => h) (Or.inr ⟨by kernel_rfl, rfl⟩) (by assumption) ?_
            try dsimp only [Act.put]
            refine wpAnyH_take (i := 39) (oi := _) (v := undef) rfl (by kernel_rfl) (by kernel_rfl) (by kernel_rfl) (fun _ _ _ h => h) (Or.inr ⟨by kernel_rfl, rfl⟩) (by assumption) ?_
            try dsimp only [Act.put]
            refine wpAnyH_take (i := 40) (oi := _) (v := undef) rfl (by kernel_rfl) (by kernel_rfl) (by kernel_rfl) (fun _ _ _ h => h) (Or.inr ⟨by kernel_rfl, rfl⟩) (by assumption) ?_
            try dsimp only [Act.put]
            refine wpAnyH_take (i := 41) (oi := _) (v := undef) rfl (by kernel_rfl) (by kernel_rfl) (by kernel_rfl) (fun _ _ _ h => h) (Or.inr ⟨by kernel_rfl, rfl⟩) (by assumption) ?_
            try dsimp only [Act.put]
            refine wpAnyH_take (i := 42) (oi := _) (v := undef) rfl (by kernel_rfl) (by kernel_rfl) (by kernel_rfl) (fun _ _ _ h => h) (Or.inr ⟨by kernel_rfl, rfl⟩) (by assumption) ?_
            try dsimp only [Act.put]
            refine wpAnyH_take (i := 43) (oi := _) (v := undef) rfl (by kernel_rfl) (by kernel_rfl) (by kernel_rfl) (fun _ _ _ h => h) (Or.inr ⟨by kernel_rfl, rfl⟩) (by assumption) ?_
            try dsimp only [Act.put]
            refine wpAnyH_take (i := 44) (oi := _) (v := undef) rfl (by kernel_rfl) (by kernel_rfl) (by kernel_rfl) (fun _ _ _ h => h) (Or.inr ⟨by kernel_rfl, rfl⟩) (by assumption) ?_
            try dsimp only [Act.put]
            refine wpAnyH_take (i := 45) (oi := _) (v := undef) rfl (by kernel_rfl) (by kernel_rfl) (by kernel_rfl) (fun _ _ _ h => h) (Or.inr ⟨by kernel_rfl, rfl⟩) (by assumption) ?_
            try dsimp only [Act.put]
            refine wpAnyH_take (i := 46) (oi := _) (v := ?_) rfl (by kernel_rfl) (by kernel_rfl) (by kernel_rfl) (fun _ _ _ h => h) (Or.inl ⟨by kernel_rfl, ?_⟩) (by assumption) ?_
            rotate_left; (intro w' hSw; (try dsimp only at hSw); go_split_ands; go_simp; (try with_reducible rfl))
            try dsimp only [Act.put]
            refine wpAnyH_done (by kernel_rfl) ?_ _
            refine NoPanic.normal ?_
            go_simp
            go_wp2
            go_roundw
            case rel => exact ⟨j + 1, by omega, by go_num, Lib.hid (HW.out.trans ND.out)⟩
            case measure => simp [intOf]; omega
      · obtain rfl : m1 = j := by omega
        go_wp2
        go_ret
        exact ⟨by first | rfl | simp, NN.out.trans HW.out⟩
end Go.Proofs.Ytobnjagmakhgpaa
