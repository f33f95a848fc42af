/- The law FnLayoutTreeCross, walked: across the direction of the box around it, a box fills the inner rectangle. Condition: the code can be read. -/
import Derived.Test.YtbpocogohfmoaaaLayC
import Derived.Test.YtbpocogohfmoaaaDrawLt
import Derived.Test.YtbpocogohfmoaaaRectQ
import Derived.Deep.RegionHeld3
namespace Go.Proofs.Ytbpocogohfmoaaa
open Go.RowKit

set_option maxRecDepth 100000 in
set_option maxHeartbeats 4000000 in
theorem lawLayoutTreeCross (A : Option Addr) (n c : Nat) (hn : n ≤ maxLen) (hnc : n ≤ c) (w : World) (hb : Bytes w A n) :
    Calls Try.prog 10 #[.slice A n c] w fun e w' => e = .returned (.bool true) ∧ New w w' := by
  have HB := Lib.hid hb; have HM := Lib.hid hn
  clear hb
  unfold maxLen at hn
  by_cases hbig : 1048576 < n
  · go_enter Try.func10, Try.ntmps10
    go_wp2
    go_ret
    exact ⟨rfl, by (repeat (first | exact New.refl _ | assumption | refine New.alloc ?_ _ | refine New.drew ?_ | refine New.drewN ?_ _ | refine New.setCell ?_ (by first | omega | (simp; omega) | (simp; done)) _ | refine New.trans ?_ (by assumption)))⟩
  have hm : (n : Int) ≤ 1048576 := by omega
  have hm0 : (0 : Int) ≤ (n : Int) := by omega
  go_enter Try.func10, Try.ntmps10
  go_wp2_with fail
  refine (DrawLayoutTree_any A n c HM.out hnc _ HB.out).mono ?_
  rintro e w1 ⟨B1, m1, d1, zs, x, y, rfl, I1, l1, kd, xb, yb, N1a⟩
  have s1 := N1a.le
  have N1 := Lib.hid ((New.refl w).trans N1a); clear N1a
  replace I1 := Lib.hid I1
  obtain ⟨nq, LQ⟩ : ∃ nq, Hid ((flat4 (layA m1 zs x y)).length = nq * 4) := ⟨(layA m1 zs x y).length, Lib.hid (flat4_len _)⟩
  have nqa : nq = (layA m1 zs x y).length := by have h1 := LQ.out; rw [flat4_len] at h1; omega
  have nq16 : nq ≤ 16 := by rw [nqa]; exact layA_len
  have nqi : (nq : Int) ≤ 16 := by omega
  have nqj : (0 : Int) ≤ (nq : Int) := by omega
  obtain ⟨xb0, xb1⟩ := xb
  obtain ⟨yb0, yb1⟩ := yb
  cases hv : layOk m1 zs x y
  · have h0 : nq = 0 := by rw [nqa, layA_no hv]; rfl
    subst h0
    clear hv nqa
    go_wp2_with fail
    refine (LayoutTree_ans B1 m1 d1 zs x y (by omega) _ I1.out).mono ?_
    rintro e w2 ⟨A2, n2, c2, rfl, l2, r2, N2a⟩
    have s2 := N2a.le
    have I1 := Lib.hid (I1.out.new N2a)
    have N2 := Lib.hid (N1.out.trans N2a); clear N2a
    obtain rfl : 0 = n2 := by have := LQ.out; omega
    have R2 := Lib.hid r2; clear l2 r2
    go_wp2_with fail
    refine (SLayoutTree_ans B1 m1 d1 zs x y (by omega) _ I1.out).mono ?_
    rintro e w3 ⟨A3, n3, c3, rfl, l3, r3, N3a⟩
    have s3 := N3a.le
    have I1 := Lib.hid (I1.out.new N3a)
    have R2 := Lib.hid (R2.out.new N3a)
    have N3 := Lib.hid (N2.out.trans N3a); clear N3a
    obtain rfl : 0 = n3 := by have := LQ.out; omega
    have R3 := Lib.hid r3; clear l3 r3
    go_wp2_with fail
    refine (equalRects_same _ _ 0 _ _ _ (by omega) _ (Sts.of_res (m := 3) R2.out LQ.out) (Sts.of_res (m := 3) R3.out LQ.out)).mono ?_
    rintro e w4 ⟨rfl, N4a⟩
    have s4 := N4a.le
    have I1 := Lib.hid (I1.out.new N4a)
    have R2 := Lib.hid (R2.out.new N4a)
    have R3 := Lib.hid (R3.out.new N4a)
    have N4 := Lib.hid (N3.out.trans N4a); clear N4a
    go_wp2_with fail
    refine (SLayoutTree_ans B1 m1 d1 zs x y (by omega) _ I1.out).mono ?_
    rintro e w5 ⟨A5, n5, c5, rfl, l5, r5, N5a⟩
    have s5 := N5a.le
    have I1 := Lib.hid (I1.out.new N5a)
    have R2 := Lib.hid (R2.out.new N5a)
    have R3 := Lib.hid (R3.out.new N5a)
    have N5 := Lib.hid (N4.out.trans N5a); clear N5a
    obtain rfl : 0 = n5 := by have := LQ.out; omega
    have R5 := Lib.hid r5; clear l5 r5
    go_wp2_with fail
    refine (equalRects_same _ _ 0 _ _ _ (by omega) _ (Sts.of_res (m := 3) R2.out LQ.out) (Sts.of_res (m := 3) R5.out LQ.out)).mono ?_
    rintro e w6 ⟨rfl, N6a⟩
    have s6 := N6a.le
    have I1 := Lib.hid (I1.out.new N6a)
    have R2 := Lib.hid (R2.out.new N6a)
    have R3 := Lib.hid (R3.out.new N6a)
    have R5 := Lib.hid (R5.out.new N6a)
    have N6 := Lib.hid (N5.out.trans N6a); clear N6a
    go_wp2
    go_ret
    exact ⟨rfl, N6.out⟩
  · have hq : nq = m1 := by rw [nqa, layA_yes hv]; simp
    subst hq
    obtain ⟨hvt, hx0, hy0⟩ := layOk_iff.1 hv
    have v1 := (vtB_iff.1 hvt).1
    have nz0 : ((nq : Int) == 0) = false := by simp; omega
    have AX := Lib.hid (fun i (h0 : 0 < i) hi => lay_across hvt hx0 hy0 (i := i) h0 hi)
    have LA := Lib.hid (fun i hi => lay_at hv (i := i) hi)
    have V4 := Lib.hid (fun k => flat4_at (layA nq zs x y) k)
    clear hv nqa hvt hx0 hy0
    go_wp2_with fail
    refine (LayoutTree_ans B1 nq d1 zs x y (by omega) _ I1.out).mono ?_
    rintro e w2 ⟨A2, n2, c2, rfl, l2, r2, N2a⟩
    have s2 := N2a.le
    have I1 := Lib.hid (I1.out.new N2a)
    have N2 := Lib.hid (N1.out.trans N2a); clear N2a
    obtain rfl : nq = n2 := by have := LQ.out; omega
    have R2 := Lib.hid r2; clear l2 r2
    go_wp2_with fail
    refine (SLayoutTree_ans B1 nq d1 zs x y (by omega) _ I1.out).mono ?_
    rintro e w3 ⟨A3, n3, c3, rfl, l3, r3, N3a⟩
    have s3 := N3a.le
    have I1 := Lib.hid (I1.out.new N3a)
    have R2 := Lib.hid (R2.out.new N3a)
    have N3 := Lib.hid (N2.out.trans N3a); clear N3a
    obtain rfl : nq = n3 := by have := LQ.out; omega
    have R3 := Lib.hid r3; clear l3 r3
    go_wp2_with fail
    refine (equalRects_same _ _ nq _ _ _ (by omega) _ (Sts.of_res (m := 3) R2.out LQ.out) (Sts.of_res (m := 3) R3.out LQ.out)).mono ?_
    rintro e w4 ⟨rfl, N4a⟩
    have s4 := N4a.le
    have I1 := Lib.hid (I1.out.new N4a)
    have R2 := Lib.hid (R2.out.new N4a)
    have R3 := Lib.hid (R3.out.new N4a)
    have N4 := Lib.hid (N3.out.trans N4a); clear N4a
    obtain ⟨b, off, rfl, hb, hc⟩ := (Sts.of_res (m := 3) R2.out LQ.out).at_ (by omega)
    obtain ⟨b', off', rfl, hb', hc'⟩ := I1.out.at_ (by omega)
    have GC := Lib.hid (fun i (hi : i < nq) W (hW : New w4 W) => (show W.cell? ⟨b, off + i * 4, none⟩ = some (.int .i64 (layR zs nq x y i).1) ∧ W.cell? ⟨b, off + i * 4 + 1, none⟩ = some (.int .i64 (layR zs nq x y i).2.1) ∧ W.cell? ⟨b, off + i * 4 + 2, none⟩ = some (.int .i64 (layR zs nq x y i).2.2.1) ∧ W.cell? ⟨b, off + i * 4 + 3, none⟩ = some (.int .i64 (layR zs nq x y i).2.2.2) by
      obtain ⟨v0, v1, v2, v3⟩ := V4.out i
      rw [LA.out i hi] at v0 v1 v2 v3
      exact ⟨(hW.cells b _ hb).trans ((hc (i * 4) (by omega)).trans (by rw [v0])), (hW.cells b _ hb).trans ((hc (i * 4 + 1) (by omega)).trans (by rw [v1])), (hW.cells b _ hb).trans ((hc (i * 4 + 2) (by omega)).trans (by rw [v2])), (hW.cells b _ hb).trans ((hc (i * 4 + 3) (by omega)).trans (by rw [v3]))⟩))
    have GT := Lib.hid (fun i (hi : i < nq * 9) W (hW : New w4 W) => (hW.cells b' (off' + i) hb').trans (hc' i hi))
    have NN := Lib.hid N4.out
    clear hc hc'
    go_wp2
    go_loopw [7] (fun i wr => ∃ j : Nat, 1 ≤ j ∧ j ≤ nq ∧ i = .int .i64 j ∧ Hid (New w4 wr)) (fun i _ => nq - (intOf i).toNat)
    case atStart => exact ⟨1, Nat.le_refl _, by omega, rfl, Lib.hid (by (repeat (first | exact New.refl _ | assumption | refine New.alloc ?_ _ | refine New.drew ?_ | refine New.drewN ?_ _ | refine New.setCell ?_ (by first | omega | (simp; omega) | (simp; done)) _ | refine New.trans ?_ (by assumption))))⟩
    case round =>
      obtain ⟨j, hj1, hj, rfl, HW⟩ := hrel
      have j0 : (0 : Int) ≤ (j : Int) := by omega
      by_cases hlt : j < nq
      · have ji : (j : Int) < (nq : Int) := by omega
        obtain ⟨p, a0, a1, a2, a3, pd, r0, r1, r2, r3, c0, c1, c2, c3, kd2, hp, hpl, hlp, hpd, hkd, hlj, hio, hn0, hn1, hn2, hn3, hor⟩ := AX.out j (by omega) hlt
        have p0 : (0 : Int) ≤ (p : Int) := by omega
        have pn : p < nq := by omega
        have pi : (p : Int) < (nq : Int) := by omega
        have IO := Lib.hid hio; have N0 := Lib.hid hn0; have N1x := Lib.hid hn1; have N2x := Lib.hid hn2; have N3x := Lib.hid hn3
        have gp := GT.out (j * 9) (by omega) wr HW.out
        rw [hp] at gp
        have HX := HW
        have KF := Lib.hid (fun V (hV : New wr V) => (show V.cell? ⟨b, off + p * 4, none⟩ = some (.int .i64 a0) ∧ V.cell? ⟨b, off + p * 4 + 1, none⟩ = some (.int .i64 a1) ∧ V.cell? ⟨b, off + p * 4 + 2, none⟩ = some (.int .i64 a2) ∧ V.cell? ⟨b, off + p * 4 + 3, none⟩ = some (.int .i64 a3) ∧ V.cell? ⟨b', off' + p * 9 + 4, none⟩ = some (.int .i64 pd) by
          have h1 := GC.out p pn V (HX.out.trans hV)
          rw [hlp] at h1
          have h2 := GT.out (p * 9 + 4) (by omega) V (HX.out.trans hV)
          rw [hpd] at h2
          exact ⟨h1.1, h1.2.1, h1.2.2.1, h1.2.2.2, h2⟩))
        have KG := Lib.hid (fun V (hV : New wr V) => (show V.cell? ⟨b, off + j * 4, none⟩ = some (.int .i64 c0) ∧ V.cell? ⟨b, off + j * 4 + 1, none⟩ = some (.int .i64 c1) ∧ V.cell? ⟨b, off + j * 4 + 2, none⟩ = some (.int .i64 c2) ∧ V.cell? ⟨b, off + j * 4 + 3, none⟩ = some (.int .i64 c3) ∧ V.cell? ⟨b', off' + p * 9 + 1, none⟩ = some (.int .i64 kd2) by
          have h1 := GC.out j hlt V (HX.out.trans hV)
          rw [hlj] at h1
          have h2 := GT.out (p * 9 + 1) (by omega) V (HX.out.trans hV)
          rw [hkd] at h2
          exact ⟨h1.1, h1.2.1, h1.2.2.1, h1.2.2.2, h2⟩))
        have ND := Lib.hid (((New.refl wr).alloc (.cells #[.int .i64 0, .int .i64 0, .int .i64 0, .int .i64 0] 34)).drew)
        have K1 := KF.out _ ((New.refl wr).drew)
        have K1b := KF.out _ ND.out
        have RI := Lib.hid ((Row.oneRect wr 0 0 0 0 34).new ((New.refl _).drew))
        have KU0 := Lib.hid (fun V hV => (show World.cell? V ⟨wr.heap.size, 0, none⟩ = some (.int .i64 0) from (RI.out.new hV).c 0 (by simp)))
        have KV0 := Lib.hid (fun V hV => (RI.out.new (w' := V) hV).f 0 (by simp))
        have KU1 := Lib.hid (fun V hV => (show World.cell? V ⟨wr.heap.size, 1, none⟩ = some (.int .i64 0) from (RI.out.new hV).c 1 (by simp)))
        have KV1 := Lib.hid (fun V hV => (RI.out.new (w' := V) hV).f 1 (by simp))
        have KU2 := Lib.hid (fun V hV => (show World.cell? V ⟨wr.heap.size, 2, none⟩ = some (.int .i64 0) from (RI.out.new hV).c 2 (by simp)))
        have KV2 := Lib.hid (fun V hV => (RI.out.new (w' := V) hV).f 2 (by simp))
        have KU3 := Lib.hid (fun V hV => (show World.cell? V ⟨wr.heap.size, 3, none⟩ = some (.int .i64 0) from (RI.out.new hV).c 3 (by simp)))
        have KV3 := Lib.hid (fun V hV => (RI.out.new (w' := V) hV).f 3 (by simp))
        clear hp hlp hpd hkd hlj hio hn0 hn1 hn2 hn3
        go_wp2
        go_region_held3 (fun w' => w'.cell? ⟨b, off + p * 4, none⟩ = some (.int .i64 a0) ∧ w'.cell? ⟨b, off + p * 4 + 1, none⟩ = some (.int .i64 a1) ∧ w'.cell? ⟨b, off + p * 4 + 2, none⟩ = some (.int .i64 a2) ∧ w'.cell? ⟨b, off + p * 4 + 3, none⟩ = some (.int .i64 a3) ∧ w'.cell? ⟨b', off' + p * 9 + 4, none⟩ = some (.int .i64 pd))
          (first | exact K1 | exact K1b | exact K2 | assumption | exact KF.out _ (by (repeat (first | exact New.refl _ | assumption | refine New.alloc ?_ _ | refine New.drew ?_ | refine New.drewN ?_ _ | refine New.setCell ?_ (by first | omega | (simp; omega) | (simp; done)) _ | refine New.trans ?_ (by assumption)))))
          (first
            | (go_at_call 41; refine (InsetRect_any a0 a1 a2 a3 pd _).mono ?_; rw [IO.out, N0.out, N1x.out, N2x.out, N3x.out]; rintro e wc ⟨rfl, Ncx⟩; (have Nc := ((New.refl wr).drew).trans Ncx); (have K2 := KF.out wc Nc); (have scn := Nc.le))
            | (go_at_call 41; refine (InsetRect_any a0 a1 a2 a3 pd _).mono ?_; rw [IO.out, N0.out, N1x.out, N2x.out, N3x.out]; rintro e wc ⟨rfl, Ncx⟩; (have Nc := ND.out.trans Ncx); (have K2 := KF.out wc Nc); (have scn := Nc.le); (have u0 := KU0.out wc Ncx); (have u1 := KU1.out wc Ncx); (have u2 := KU2.out wc Ncx); (have u3 := KU3.out wc Ncx); (have f0 := KV0.out wc Ncx); (have f1 := KV1.out wc Ncx); (have f2 := KV2.out wc Ncx); (have f3 := KV3.out wc Ncx)))
        · have RS := Row.oneRect wc r0 r1 r2 r3 34
          have NB := Nc.alloc (.cells #[.int .i64 r0, .int .i64 r1, .int .i64 r2, .int .i64 r3] 34)
          have x0 := RS.c 0 (by simp); have x1 := RS.c 1 (by simp); have x2 := RS.c 2 (by simp); have x3 := RS.c 3 (by simp)
          simp only [List.getD_cons_zero, List.getD_cons_succ] at x0 x1 x2 x3
          obtain ⟨y0, y1, y2, y3, y4⟩ := KG.out _ NB
          have HZ := Lib.hid (HX.out.trans NB)
          clear RS K1 K1b K2 KF KG KU0 KU1 KU2 KU3 KV0 KV1 KV2 KV3 RI ND NB
          rcases hor with ⟨rfl, rfl, rfl⟩ | ⟨hk2, rfl, rfl⟩
          · go_wp2
            go_quiet (fail)
            go_wp2
            go_roundw
            case rel => exact ⟨j + 1, by omega, by omega, by go_num, Lib.hid (HZ.out.drewN _)⟩
            case measure => simp [intOf]; omega
          · have kb : (kd2 == 2) = false := by simp; omega
            have kb2 : (kd2 != 2) = true := by simp; omega
            go_wp2
            go_quiet (fail)
            go_wp2
            go_roundw
            case rel => exact ⟨j + 1, by omega, by omega, by go_num, Lib.hid (HZ.out.drewN _)⟩
            case measure => simp [intOf]; omega
        · have RC := RI.out.new Ncx
          have RS : Row ((((wc.setCell ⟨wr.heap.size, 0, none⟩ (.int .i64 r0)).setCell ⟨wr.heap.size, 1, none⟩ (.int .i64 r1)).setCell ⟨wr.heap.size, 2, none⟩ (.int .i64 r2)).setCell ⟨wr.heap.size, 3, none⟩ (.int .i64 r3)) wr.heap.size [r0, r1, r2, r3] := (((RC.set_ (k := 0) (by simp) r0).set_ (k := 1) (by simp) r1).set_ (k := 2) (by simp) r2).set_ (k := 3) (by simp) r3
          have NB : New wr ((((wc.setCell ⟨wr.heap.size, 0, none⟩ (.int .i64 r0)).setCell ⟨wr.heap.size, 1, none⟩ (.int .i64 r1)).setCell ⟨wr.heap.size, 2, none⟩ (.int .i64 r2)).setCell ⟨wr.heap.size, 3, none⟩ (.int .i64 r3)) := (((Nc.setCell (Nat.le_refl _) _).setCell (Nat.le_refl _) _).setCell (Nat.le_refl _) _).setCell (Nat.le_refl _) _
          clear RC u0 u1 u2 u3 f0 f1 f2 f3
          have x0 := RS.c 0 (by simp); have x1 := RS.c 1 (by simp); have x2 := RS.c 2 (by simp); have x3 := RS.c 3 (by simp)
          simp only [List.getD_cons_zero, List.getD_cons_succ] at x0 x1 x2 x3
          obtain ⟨y0, y1, y2, y3, y4⟩ := KG.out _ NB
          have HZ := Lib.hid (HX.out.trans NB)
          clear RS K1 K1b K2 KF KG KU0 KU1 KU2 KU3 KV0 KV1 KV2 KV3 RI ND NB
          rcases hor with ⟨rfl, rfl, rfl⟩ | ⟨hk2, rfl, rfl⟩
          · go_wp2
            go_quiet (fail)
            go_wp2
            go_roundw
            case rel => exact ⟨j + 1, by omega, by omega, by go_num, Lib.hid (HZ.out.drewN _)⟩
            case measure => simp [intOf]; omega
          · have kb : (kd2 == 2) = false := by simp; omega
            have kb2 : (kd2 != 2) = true := by simp; omega
            go_wp2
            go_quiet (fail)
            go_wp2
            go_roundw
            case rel => exact ⟨j + 1, by omega, by omega, by go_num, Lib.hid (HZ.out.drewN _)⟩
            case measure => simp [intOf]; omega
      · go_wp2
        go_ret
        exact ⟨rfl, NN.out.trans HW.out⟩
end Go.Proofs.Ytbpocogohfmoaaa
