/- The law FnJoinPaintApart, walked: for every code. Condition: the code can be read. -/
import Derived.Test.YtckdokijmlpngaaDrawRc
import Derived.Test.YtckdokijmlpngaaJoiI
import Derived.Test.YtckdokijmlpngaaJoiS
import Derived.Test.YtckdokijmlpngaaJoiP
import Derived.Test.YtckdokijmlpngaaRectQ
import Derived.Test.YtckdokijmlpngaaPlain
import Derived.Deep.RegionHeld3
import Derived.Test.YtckdokijmlpngaaJoiQ
import Derived.Test.YtckdokijmlpngaaRectL
import Derived.Deep.Cut
namespace Go.Proofs.Ytckdokijmlpngaa
open Go.RowKit

set_option maxRecDepth 100000 in
set_option maxHeartbeats 4000000 in
theorem lawJoinPaintApart (A : Option Addr) (n c : Nat) (hn : n ≤ maxLen) (hnc : n ≤ c) (w : World) (hb : Bytes w A n) :
    Calls Try.prog 13 #[.slice A n c] w fun e w' => e = .returned (.bool true) ∧ New w w' := by
  have HB := Lib.hid hb; have HM := Lib.hid hn
  clear hb
  unfold maxLen at hn
  by_cases hbig : 1048576 < n
  · go_enter Try.func13, Try.ntmps13
    go_wp2
    go_ret
    exact ⟨rfl, by (repeat (first | exact New.refl _ | assumption | refine New.alloc ?_ _ | refine New.drew ?_ | refine New.drewN ?_ _ | refine New.setCell ?_ (by first | omega | (simp; omega) | (simp; done)) _ | refine New.trans ?_ (by assumption)))⟩
  have hm : (n : Int) ≤ 1048576 := by omega
  have hm0 : (0 : Int) ≤ (n : Int) := by omega
  go_enter Try.func13, Try.ntmps13
  go_wp2_with fail
  refine (DrawJoinPaint_any A n c HM.out hnc _ HB.out).mono ?_
  rintro e w1 ⟨B1, m1, d1, xs, rfl, I1, dc1, l1, N1a⟩
  have s1 := N1a.le
  have N1 := Lib.hid ((New.refl w).trans N1a); clear N1a
  replace I1 := Lib.hid I1
  have y0 : (0 : Int) ≤ (m1 : Int) := by omega
  have y1 : (m1 : Int) ≤ 7 := by omega
  go_wp2_with fail
  refine (JoinPaint_ansK B1 m1 d1 xs (by omega) _ I1.out).mono ?_
  rintro e w2 ⟨A2, n2, c2, rfl, l2, q2, r2, N2a⟩
  have s2 := N2a.le
  have I1 := Lib.hid (I1.out.new N2a)
  have N2 := Lib.hid (N1.out.trans N2a); clear N2a
  have R2 := Lib.hid r2; have Q2 := Lib.hid q2; have L2 := Lib.hid l2; clear r2 q2 l2
  go_wp2_with fail
  refine (SJoinPaint_ansT B1 m1 d1 xs (by omega) _ I1.out).mono ?_
  rintro e w3 ⟨A3, n3, c3, rfl, l3, r3, N3a⟩
  have s3 := N3a.le
  have I1 := Lib.hid (I1.out.new N3a)
  have R2 := Lib.hid (R2.out.new N3a)
  have N3 := Lib.hid (N2.out.trans N3a); clear N3a
  have R3 := Lib.hid r3; obtain rfl : n2 = n3 := by have := L2.out; omega
  clear r3 l3
  have LJ := jA_len m1 xs
  have nj : n2 ≤ 6 := by have := L2.out; omega
  have nji : (n2 : Int) ≤ 6 := by omega
  have njj : (0 : Int) ≤ (n2 : Int) := by omega
  clear LJ
  go_wp2_with fail
  refine (equalRects_same A2 A3 n2 c2 c3 _ (by omega) _ (Sts.of_res (m := 3) R2.out L2.out) (Sts.of_res (m := 3) R3.out L2.out)).mono ?_
  rintro e w4 ⟨rfl, N4a⟩
  have s4 := N4a.le
  have I1 := Lib.hid (I1.out.new N4a)
  have R2 := Lib.hid (R2.out.new N4a)
  have R3 := Lib.hid (R3.out.new N4a)
  have N4 := Lib.hid (N3.out.trans N4a); clear N4a
  cases hjb : jB m1 xs
  · have HJB := Lib.hid hjb; clear hjb
    go_wp2_with fail
    refine (equalRects_same A2 A3 n2 c2 c3 _ (by omega) _ (Sts.of_res (m := 3) R2.out L2.out) (Sts.of_res (m := 3) R3.out L2.out)).mono ?_
    rintro e w5 ⟨rfl, N5a⟩
    have s5 := N5a.le
    have I1 := Lib.hid (I1.out.new N5a)
    have R2 := Lib.hid (R2.out.new N5a)
    have R3 := Lib.hid (R3.out.new N5a)
    have N5 := Lib.hid (N4.out.trans N5a); clear N5a
    go_wp2
    go_ret
    exact ⟨rfl, N5.out⟩
  obtain ⟨jb6, hk1, hk2⟩ := jB_iff.1 hjb
  have KP := kept hk1 hk2
  have JN := Lib.hid (joined hk1 hk2)
  have HK1 := Lib.hid hk1; have HK2 := Lib.hid hk2
  have hja := jA_yes hjb
  by_cases h2 : m1 < 2
  · have h2i : (m1 : Int) < 2 := by omega
    go_wp2_with fail
    refine (equalRects_same A2 A3 n2 c2 c3 _ (by omega) _ (Sts.of_res (m := 3) R2.out L2.out) (Sts.of_res (m := 3) R3.out L2.out)).mono ?_
    rintro e w5 ⟨rfl, N5⟩
    go_wp2
    go_ret
    exact ⟨rfl, N4.out.trans N5⟩
  have h2 : 2 ≤ m1 := by omega
  have h2i : (2 : Int) ≤ (m1 : Int) := by omega
  have h2n : ¬ (m1 : Int) < 2 := by omega
  have h2c : (2 : Int) ≤ (d1 : Int) := by omega
  have h0i : (0 : Int) < (m1 : Int) := by omega
  have h1i : (1 : Int) < (m1 : Int) := by omega
  have h0n : 0 < m1 := by omega
  have h1n : 1 < m1 := by omega
  have jt := jB_take h2 hk1 hk2
  have jtwo := jTo_two xs
  have hl := I1.out.len
  have JT := Lib.hid jt; have J2 := Lib.hid jtwo
  have T8 := Lib.hid (take8 (zs := xs) (by omega))
  have v0 := v4_rg (hk1 0 (by omega)); have v1 := v4_rg (hk1 1 (by omega))
  have JW := Lib.hid (jB_twice v0)
  have MS := Lib.hid (m4_self v0)
  obtain ⟨b, off, rfl, hb, hc⟩ := I1.out.at_ (by omega)
  have KX := Lib.hid (fun V (hV : New w4 V) => (⟨(hV.cells b _ hb).trans (hc 0 (by omega)), (hV.cells b _ hb).trans (hc 1 (by omega)), (hV.cells b _ hb).trans (hc 2 (by omega)), (hV.cells b _ hb).trans (hc 3 (by omega)), (hV.cells b _ hb).trans (hc 4 (by omega)), (hV.cells b _ hb).trans (hc 5 (by omega)), (hV.cells b _ hb).trans (hc 6 (by omega)), (hV.cells b _ hb).trans (hc 7 (by omega))⟩ : V.cell? ⟨b, off, none⟩ = some (.int .i64 (xs.getD 0 0)) ∧ V.cell? ⟨b, off + 1, none⟩ = some (.int .i64 (xs.getD 1 0)) ∧ V.cell? ⟨b, off + 2, none⟩ = some (.int .i64 (xs.getD 2 0)) ∧ V.cell? ⟨b, off + 3, none⟩ = some (.int .i64 (xs.getD 3 0)) ∧ V.cell? ⟨b, off + 4, none⟩ = some (.int .i64 (xs.getD 4 0)) ∧ V.cell? ⟨b, off + 5, none⟩ = some (.int .i64 (xs.getD 5 0)) ∧ V.cell? ⟨b, off + 6, none⟩ = some (.int .i64 (xs.getD 6 0)) ∧ V.cell? ⟨b, off + 7, none⟩ = some (.int .i64 (xs.getD 7 0))))
  rw [show rg xs 0 = (xs.getD 0 0, xs.getD 1 0, xs.getD 2 0, xs.getD 3 0) from rfl] at v0 JW J2 MS T8
  rw [show rg xs 1 = (xs.getD 4 0, xs.getD 5 0, xs.getD 6 0, xs.getD 7 0) from rfl] at v1 J2 T8
  have S8 : Hid (∀ V, New w4 V → Sts 4 V (some ⟨b, off, none⟩) 2 (xs.take 8)) := Lib.hid (fun V hV => ⟨by rw [List.length_take, hl]; omega, fun _ => ⟨b, off, rfl, Nat.lt_of_lt_of_le hb hV.le, fun i hi => by
    rw [List.getD_eq_getElem?_getD, List.getElem?_take_of_lt (by omega), ← List.getD_eq_getElem?_getD]
    exact (hV.cells b _ hb).trans (hc i (by omega))⟩⟩)
  have NN := Lib.hid N4.out
  clear hk1 hk2 KP hja hjb jt jtwo hc hl
  generalize hx0 : xs.getD 0 0 = x0 at KX v0 JW J2 MS T8
  generalize hx1 : xs.getD 1 0 = x1 at KX v0 JW J2 MS T8
  generalize hx2 : xs.getD 2 0 = x2 at KX v0 JW J2 MS T8
  generalize hx3 : xs.getD 3 0 = x3 at KX v0 JW J2 MS T8
  generalize hz0 : xs.getD 4 0 = z0 at KX v1 J2 T8
  generalize hz1 : xs.getD 5 0 = z1 at KX v1 J2 T8
  generalize hz2 : xs.getD 6 0 = z2 at KX v1 J2 T8
  generalize hz3 : xs.getD 7 0 = z3 at KX v1 J2 T8
  clear hx0 hx1 hx2 hx3 hz0 hz1 hz2 hz3
  obtain ⟨g0, g1, g2, g3, o0, o1, o2, o3⟩ := KX.out _ (New.refl _)
  have RV := Lib.hid (Row.oneRect w4 x0 x1 x2 x3 34)
  have NV := Lib.hid ((New.refl w4).alloc (.cells #[.int .i64 x0, .int .i64 x1, .int .i64 x2, .int .i64 x3] 34))
  have R8 := Lib.hid (Row.eight (w4.alloc (.cells #[.int .i64 x0, .int .i64 x1, .int .i64 x2, .int .i64 x3] 34)) x0 x1 x2 x3 x0 x1 x2 x3 34)
  have s5 : (w4.alloc (.cells #[.int .i64 x0, .int .i64 x1, .int .i64 x2, .int .i64 x3] 34)).heap.size = w4.heap.size + 1 := by simp
  rw [s5] at R8
  have MR := Lib.hid (fun V => (show Calls Try.prog 38 #[.agg #[.int .i64 x0, .int .i64 x1, .int .i64 x2, .int .i64 x3], .agg #[.int .i64 z0, .int .i64 z1, .int .i64 z2, .int .i64 z3]] V fun e V' => (∃ h0 h1 h2 h3 : Int, e = .returned (.tuple #[.agg #[.int .i64 h0, .int .i64 h1, .int .i64 h2, .int .i64 h3], .bool (m4 (x0, x1, x2, x3) (z0, z1, z2, z3))])) ∧ New V V' from (MeetRects_any x0 x1 x2 x3 z0 z1 z2 z3 V).mono fun e V' ⟨he, hN⟩ => ⟨⟨_, _, _, _, he⟩, hN⟩))
  go_wp2_with fail
  refine (JoinPaint_ansK (some ⟨w4.heap.size + 1, 0, none⟩) 2 2 [x0, x1, x2, x3, x0, x1, x2, x3] (by omega) _ (Sts.of_res (m := 3) (Res.of_row R8.out (Nat.zero_le _)) rfl)).mono ?_
  rw [show [x0, x1, x2, x3, x0, x1, x2, x3] = l4 (x0, x1, x2, x3) ++ l4 (x0, x1, x2, x3) from rfl, JW.out.1]
  rintro e w6 ⟨A6, n6, c6, rfl, l6, -, r6, N6a⟩
  have L6 := Lib.hid l6; have R6 := Lib.hid r6
  have N6 := Lib.hid ((NV.out.alloc (.cells #[.int .i64 x0, .int .i64 x1, .int .i64 x2, .int .i64 x3, .int .i64 x0, .int .i64 x1, .int .i64 x2, .int .i64 x3] 34)).trans N6a)
  have RV := Lib.hid ((RV.out.new ((New.refl _).alloc (.cells #[.int .i64 x0, .int .i64 x1, .int .i64 x2, .int .i64 x3, .int .i64 x0, .int .i64 x1, .int .i64 x2, .int .i64 x3] 34))).new N6a)
  clear l6 r6 g0 g1 g2 g3 o0 o1 o2 o3 R8 s5 N6a NV
  obtain ⟨mt, hmt⟩ : ∃ mt, m4 (x0, x1, x2, x3) (z0, z1, z2, z3) = mt := ⟨_, rfl⟩
  rw [hmt] at MR J2
  clear hmt
  have NC := Lib.hid (New.refl w6).drew
  have KK := KX.out _ (N6.out.trans NC.out)
  have NZ := Lib.hid ((New.refl w6).alloc (.cells #[.int .i64 0, .int .i64 0, .int .i64 0, .int .i64 0] 34)).drew
  have KZ := KX.out _ (N6.out.trans NZ.out)
  have RZ := Lib.hid ((Row.oneRect w6 0 0 0 0 34).new (New.refl _).drew)
  go_wp2
  go_region_held3 (fun w' => w'.cell? ⟨b, off, none⟩ = some (.int .i64 x0) ∧ w'.cell? ⟨b, off + 1, none⟩ = some (.int .i64 x1) ∧ w'.cell? ⟨b, off + 2, none⟩ = some (.int .i64 x2) ∧ w'.cell? ⟨b, off + 3, none⟩ = some (.int .i64 x3) ∧ w'.cell? ⟨b, off + 4, none⟩ = some (.int .i64 z0) ∧ w'.cell? ⟨b, off + 5, none⟩ = some (.int .i64 z1) ∧ w'.cell? ⟨b, off + 6, none⟩ = some (.int .i64 z2) ∧ w'.cell? ⟨b, off + 7, none⟩ = some (.int .i64 z3))
    (first | exact KK | exact KZ | assumption | exact KX.out _ (N6.out.trans (by (repeat (first | exact New.refl _ | assumption | refine New.alloc ?_ _ | refine New.drew ?_ | refine New.drewN ?_ _ | refine New.setCell ?_ (by first | omega | (simp; omega) | (simp; done)) _ | refine New.trans ?_ (by assumption))))))
    (first
      | (go_at_call 38; with_reducible refine (MR.out w6.drew).mono ?_; rintro e wk ⟨⟨h0, h1, h2, h3, rfl⟩, Nk⟩; (have KK := KX.out wk (N6.out.trans (NC.out.trans Nk))); (have NK := Lib.hid (NC.out.trans Nk)); clear Nk)
      | (go_at_call 38; with_reducible refine (MR.out (w6.alloc (.cells #[.int .i64 0, .int .i64 0, .int .i64 0, .int .i64 0] 34)).drew).mono ?_; rintro e wk ⟨⟨h0, h1, h2, h3, rfl⟩, Nk⟩; (have KK := KX.out wk (N6.out.trans (NZ.out.trans Nk))); (have NK := Lib.hid (NZ.out.trans Nk)); (have RK := Lib.hid (RZ.out.new Nk)); (have k0_ := RK.out.c 0 (by simp)); (have k1_ := RK.out.c 1 (by simp)); (have k2_ := RK.out.c 2 (by simp)); (have k3_ := RK.out.c 3 (by simp)); (have z0_ := RK.out.f 0 (by simp)); (have z1_ := RK.out.f 1 (by simp)); (have z2_ := RK.out.f 2 (by simp)); (have z3_ := RK.out.f 3 (by simp)); clear Nk))
  · have N7 := Lib.hid (show New w6 (wk.alloc (.cells #[.int .i64 h0, .int .i64 h1, .int .i64 h2, .int .i64 h3] 34)) from NK.out.alloc _)
    clear KK KZ
    generalize wk.alloc (.cells #[.int .i64 h0, .int .i64 h1, .int .i64 h2, .int .i64 h3] 34) = W7 at N7 ⊢
    have RV := Lib.hid (RV.out.new N7.out)
    have R6 := Lib.hid (R6.out.new N7.out)
    have NA := Lib.hid (N6.out.trans N7.out)
    have S7 := S8.out W7 NA.out
    clear NC NZ RZ N7 NK
    go_wp2_with fail
    refine (JoinPaint_ansK (some ⟨b, off, none⟩) 2 d1 (xs.take 8) (by omega) _ S7).mono ?_
    rw [JT.out.1, JT.out.2, J2.out]
    rintro e w8 ⟨A8, n8, c8, rfl, l8, -, r8, N8⟩
    have RV := Lib.hid (RV.out.new N8)
    have R6 := Lib.hid (R6.out.new N8)
    have R8 := Lib.hid r8; have L8 := Lib.hid l8
    have NB := Lib.hid (NA.out.trans N8)
    have rl := RV.out.lt
    obtain ⟨u0, u1, u2, u3⟩ := Row.allRect RV.out
    clear r8 l8 N8 S7
    by_cases hx2 : 0 < x2
    · by_cases hx3 : 0 < x3
      · have e1 := JW.out.2.1 (by rw [MS.out]; simp only [Bool.and_eq_true, decide_eq_true_eq]; exact ⟨hx2, hx3⟩)
        rw [e1] at L6 R6
        obtain rfl : n6 = 1 := by have := L6.out; simp [l4] at this; omega
        have RN := Lib.hid (Row.oneRect w8 x0 x1 x2 x3 34)
        have N9 := Lib.hid ((New.refl w8).alloc (.cells #[.int .i64 x0, .int .i64 x1, .int .i64 x2, .int .i64 x3] 34))
        go_wp2_with fail
        refine (equalRects_same A6 (some ⟨w8.heap.size, 0, none⟩) 1 c6 1 (l4 (x0, x1, x2, x3)) (by omega) _ (Sts.of_res (m := 3) (R6.out.new N9.out) rfl) (Sts.of_res (m := 3) (Res.of_row RN.out (Nat.zero_le _)) rfl)).mono ?_
        rintro e w9 ⟨rfl, N9a⟩
        have R8 := Lib.hid (R8.out.new (N9.out.trans N9a))
        have NB := Lib.hid (NB.out.trans (N9.out.trans N9a))
        cases mt
        · obtain rfl : n8 = 2 := by have := L8.out; simp [l4] at this; omega
          simp only [Bool.false_eq_true, if_false] at R8 L8
          go_wp2_with fail
          refine (equalRects_same A8 (some ⟨b, off, none⟩) 2 c8 d1 (xs.take 8) (by omega) _ (by rw [T8.out]; exact Sts.of_res (m := 3) R8.out L8.out) (S8.out _ NB.out)).mono ?_
          rintro e wz ⟨rfl, NzA⟩
          go_wp2
          go_ret
          exact ⟨rfl, NN.out.trans (NB.out.trans NzA)⟩
        · obtain rfl : n8 = 1 := by have := L8.out; simp [l4] at this; omega
          go_wp2
          go_ret
          exact ⟨rfl, NN.out.trans NB.out⟩
      · go_upto_region 14 with fail
        cases mt
        · obtain rfl : n8 = 2 := by have := L8.out; simp [l4] at this; omega
          simp only [Bool.false_eq_true, if_false] at R8 L8
          go_wp2_with fail
          refine (equalRects_same A8 (some ⟨b, off, none⟩) 2 c8 d1 (xs.take 8) (by omega) _ (by rw [T8.out]; exact Sts.of_res (m := 3) R8.out L8.out) (S8.out _ NB.out)).mono ?_
          rintro e wz ⟨rfl, NzA⟩
          go_wp2
          go_ret
          exact ⟨rfl, NN.out.trans (NB.out.trans NzA)⟩
        · obtain rfl : n8 = 1 := by have := L8.out; simp [l4] at this; omega
          go_wp2
          go_ret
          exact ⟨rfl, NN.out.trans NB.out⟩
    · go_upto_region 14 with fail
      cases mt
      · obtain rfl : n8 = 2 := by have := L8.out; simp [l4] at this; omega
        simp only [Bool.false_eq_true, if_false] at R8 L8
        go_wp2_with fail
        refine (equalRects_same A8 (some ⟨b, off, none⟩) 2 c8 d1 (xs.take 8) (by omega) _ (by rw [T8.out]; exact Sts.of_res (m := 3) R8.out L8.out) (S8.out _ NB.out)).mono ?_
        rintro e wz ⟨rfl, NzA⟩
        go_wp2
        go_ret
        exact ⟨rfl, NN.out.trans (NB.out.trans NzA)⟩
      · obtain rfl : n8 = 1 := by have := L8.out; simp [l4] at this; omega
        go_wp2
        go_ret
        exact ⟨rfl, NN.out.trans NB.out⟩
  
  · have N7 := Lib.hid (show New w6 ((((wk.setCell ⟨w6.heap.size, 0, none⟩ (.int .i64 h0)).setCell ⟨w6.heap.size, 1, none⟩ (.int .i64 h1)).setCell ⟨w6.heap.size, 2, none⟩ (.int .i64 h2)).setCell ⟨w6.heap.size, 3, none⟩ (.int .i64 h3)) from (((NK.out.setCell (Nat.le_refl _) _).setCell (Nat.le_refl _) _).setCell (Nat.le_refl _) _).setCell (Nat.le_refl _) _)
    clear KK KZ k0_ k1_ k2_ k3_ z0_ z1_ z2_ z3_ RK
    generalize ((((wk.setCell ⟨w6.heap.size, 0, none⟩ (.int .i64 h0)).setCell ⟨w6.heap.size, 1, none⟩ (.int .i64 h1)).setCell ⟨w6.heap.size, 2, none⟩ (.int .i64 h2)).setCell ⟨w6.heap.size, 3, none⟩ (.int .i64 h3)) = W7 at N7 ⊢
    have RV := Lib.hid (RV.out.new N7.out)
    have R6 := Lib.hid (R6.out.new N7.out)
    have NA := Lib.hid (N6.out.trans N7.out)
    have S7 := S8.out W7 NA.out
    clear NC NZ RZ N7 NK
    go_wp2_with fail
    refine (JoinPaint_ansK (some ⟨b, off, none⟩) 2 d1 (xs.take 8) (by omega) _ S7).mono ?_
    rw [JT.out.1, JT.out.2, J2.out]
    rintro e w8 ⟨A8, n8, c8, rfl, l8, -, r8, N8⟩
    have RV := Lib.hid (RV.out.new N8)
    have R6 := Lib.hid (R6.out.new N8)
    have R8 := Lib.hid r8; have L8 := Lib.hid l8
    have NB := Lib.hid (NA.out.trans N8)
    have rl := RV.out.lt
    obtain ⟨u0, u1, u2, u3⟩ := Row.allRect RV.out
    clear r8 l8 N8 S7
    by_cases hx2 : 0 < x2
    · by_cases hx3 : 0 < x3
      · have e1 := JW.out.2.1 (by rw [MS.out]; simp only [Bool.and_eq_true, decide_eq_true_eq]; exact ⟨hx2, hx3⟩)
        rw [e1] at L6 R6
        obtain rfl : n6 = 1 := by have := L6.out; simp [l4] at this; omega
        have RN := Lib.hid (Row.oneRect w8 x0 x1 x2 x3 34)
        have N9 := Lib.hid ((New.refl w8).alloc (.cells #[.int .i64 x0, .int .i64 x1, .int .i64 x2, .int .i64 x3] 34))
        go_wp2_with fail
        refine (equalRects_same A6 (some ⟨w8.heap.size, 0, none⟩) 1 c6 1 (l4 (x0, x1, x2, x3)) (by omega) _ (Sts.of_res (m := 3) (R6.out.new N9.out) rfl) (Sts.of_res (m := 3) (Res.of_row RN.out (Nat.zero_le _)) rfl)).mono ?_
        rintro e w9 ⟨rfl, N9a⟩
        have R8 := Lib.hid (R8.out.new (N9.out.trans N9a))
        have NB := Lib.hid (NB.out.trans (N9.out.trans N9a))
        cases mt
        · obtain rfl : n8 = 2 := by have := L8.out; simp [l4] at this; omega
          simp only [Bool.false_eq_true, if_false] at R8 L8
          go_wp2_with fail
          refine (equalRects_same A8 (some ⟨b, off, none⟩) 2 c8 d1 (xs.take 8) (by omega) _ (by rw [T8.out]; exact Sts.of_res (m := 3) R8.out L8.out) (S8.out _ NB.out)).mono ?_
          rintro e wz ⟨rfl, NzA⟩
          go_wp2
          go_ret
          exact ⟨rfl, NN.out.trans (NB.out.trans NzA)⟩
        · obtain rfl : n8 = 1 := by have := L8.out; simp [l4] at this; omega
          go_wp2
          go_ret
          exact ⟨rfl, NN.out.trans NB.out⟩
      · go_upto_region 14 with fail
        cases mt
        · obtain rfl : n8 = 2 := by have := L8.out; simp [l4] at this; omega
          simp only [Bool.false_eq_true, if_false] at R8 L8
          go_wp2_with fail
          refine (equalRects_same A8 (some ⟨b, off, none⟩) 2 c8 d1 (xs.take 8) (by omega) _ (by rw [T8.out]; exact Sts.of_res (m := 3) R8.out L8.out) (S8.out _ NB.out)).mono ?_
          rintro e wz ⟨rfl, NzA⟩
          go_wp2
          go_ret
          exact ⟨rfl, NN.out.trans (NB.out.trans NzA)⟩
        · obtain rfl : n8 = 1 := by have := L8.out; simp [l4] at this; omega
          go_wp2
          go_ret
          exact ⟨rfl, NN.out.trans NB.out⟩
    · go_upto_region 14 with fail
      cases mt
      · obtain rfl : n8 = 2 := by have := L8.out; simp [l4] at this; omega
        simp only [Bool.false_eq_true, if_false] at R8 L8
        go_wp2_with fail
        refine (equalRects_same A8 (some ⟨b, off, none⟩) 2 c8 d1 (xs.take 8) (by omega) _ (by rw [T8.out]; exact Sts.of_res (m := 3) R8.out L8.out) (S8.out _ NB.out)).mono ?_
        rintro e wz ⟨rfl, NzA⟩
        go_wp2
        go_ret
        exact ⟨rfl, NN.out.trans (NB.out.trans NzA)⟩
      · obtain rfl : n8 = 1 := by have := L8.out; simp [l4] at this; omega
        go_wp2
        go_ret
        exact ⟨rfl, NN.out.trans NB.out⟩
  
end Go.Proofs.Ytckdokijmlpngaa
