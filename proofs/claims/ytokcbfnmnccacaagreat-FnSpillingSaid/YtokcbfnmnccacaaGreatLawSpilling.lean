/- The law FnSpilling, walked: all boxes but those that spill are in the inner rectangle around them. Condition: the code can be read. -/
import Derived.Test.YtokcbfnmnccacaaGreatYB
import Derived.Test.YtokcbfnmnccacaaGreatSpilI
import Derived.Test.YtokcbfnmnccacaaGreatSpP
import Derived.Test.YtokcbfnmnccacaaGreatZW
import Derived.Deep.RegionHeld3
namespace Go.Proofs.YtokcbfnmnccacaaGreat
open Go.RowKit

theorem allRectD {w : World} {g : Nat} {y0 y1 y2 y3 : Int} (h : Row w g [y0, y1, y2, y3]) : w.cell? ⟨g, 0, none⟩ = some (.int .i64 y0) ∧ w.cell? ⟨g, 1, none⟩ = some (.int .i64 y1) ∧ w.cell? ⟨g, 2, none⟩ = some (.int .i64 y2) ∧ w.cell? ⟨g, 3, none⟩ = some (.int .i64 y3) :=
  ⟨by simpa using h.c 0 (by simp), by simpa using h.c 1 (by simp), by simpa using h.c 2 (by simp), by simpa using h.c 3 (by simp)⟩
set_option maxRecDepth 100000 in
set_option maxHeartbeats 8000000 in
theorem lawSpilling (A : Option Addr) (n c : Nat) (hn : n ≤ maxLen) (hnc : n ≤ c) (w : World) (hb : Bytes w A n) :
    Calls Tryz.prog 3 #[.slice A n c] w fun e w' => e = .returned (.bool true) ∧ New w w' := by
  have HB := Lib.hid hb; have HM := Lib.hid hn
  clear hb
  unfold maxLen at hn
  by_cases hbig : 1048576 < n
  · go_enter Tryz.func3, Tryz.ntmps3
    go_wp2
    go_ret
    exact ⟨rfl, by (repeat (first | exact New.refl _ | assumption | refine New.alloc ?_ _ | refine New.drew ?_ | refine New.drewN ?_ _ | refine New.setCell ?_ (by first | omega | (simp; omega) | (simp; done)) _ | refine New.trans ?_ (by assumption)))⟩
  have hm : (n : Int) ≤ 1048576 := by omega
  have hm0 : (0 : Int) ≤ (n : Int) := by omega
  go_enter Tryz.func3, Tryz.ntmps3
  go_wp2_with fail
  refine (DrawSpilling_any A n c HM.out hnc _ HB.out).mono ?_
  rintro e w1 ⟨B1, m1, d1, zs, W, H, rfl, I1, l1, kd, Wb, Hb, N1a⟩
  have s1 := N1a.le
  have N1 := Lib.hid ((New.refl w).trans N1a); clear N1a
  replace I1 := Lib.hid I1
  obtain ⟨nz, LZ⟩ : ∃ nz, Hid ((spA m1 zs W H).length = nz) := ⟨_, Lib.hid rfl⟩
  have nz16 : nz ≤ 16 := by have := LZ.out; have := spA_len (n := m1) (zs := zs) (W := W) (H := H); omega
  obtain ⟨nq, LQ⟩ : ∃ nq, Hid ((flat4 (layA m1 zs W H)).length = nq * 4) := ⟨(layA m1 zs W H).length, Lib.hid (flat4_len _)⟩
  have nqa : nq = (layA m1 zs W H).length := by have h1 := LQ.out; rw [flat4_len] at h1; omega
  have nq16 : nq ≤ 16 := by rw [nqa]; exact layA_len
  have nqi : (nq : Int) ≤ 16 := by omega
  have nqj : (0 : Int) ≤ (nq : Int) := by omega
  have NQA := Lib.hid nqa
  clear nqa
  go_wp2_with fail
  refine (Spilling_ans B1 m1 d1 zs W H (by omega) _ I1.out).mono ?_
  rintro e w2 ⟨A2, n2, c2, rfl, l2, r2, N2a⟩
  have s2 := N2a.le
  have I1 := Lib.hid (I1.out.new N2a)
  have N2 := Lib.hid (N1.out.trans N2a); clear N2a
  obtain rfl : nz = n2 := by have := LZ.out; omega
  have R2 := Lib.hid r2; clear l2 r2
  go_wp2_with fail
  refine (LayoutTree_ans B1 m1 d1 zs W H (by omega) _ I1.out).mono ?_
  rintro e w3 ⟨A3, n3, c3, rfl, l3, r3, N3a⟩
  have s3 := N3a.le
  have I1 := Lib.hid (I1.out.new N3a)
  have R2 := Lib.hid (R2.out.new N3a)
  have N3 := Lib.hid (N2.out.trans N3a); clear N3a
  obtain rfl : nq = n3 := by have := LQ.out; omega
  have R3 := Lib.hid r3; clear l3 r3
  go_wp2_with fail
  refine (SSpilling_ans B1 m1 d1 zs W H (by omega) _ I1.out).mono ?_
  rintro e w4 ⟨A4, n4, c4, rfl, l4, r4, N4a⟩
  have s4 := N4a.le
  have I1 := Lib.hid (I1.out.new N4a)
  have R2 := Lib.hid (R2.out.new N4a)
  have R3 := Lib.hid (R3.out.new N4a)
  have N4 := Lib.hid (N3.out.trans N4a); clear N4a
  obtain rfl : nz = n4 := by have := LZ.out; omega
  have R4 := Lib.hid r4; clear l4 r4
  go_wp2_with fail
  refine (equalInts_any _ _ nz nz _ _ _ _ (by omega) (by omega) _ (R2.out.ints LZ.out) (R4.out.ints LZ.out)).mono ?_
  rw [decide_eq_true rfl]
  rintro e w5 ⟨rfl, N5a⟩
  have s5 := N5a.le
  have I1 := Lib.hid (I1.out.new N5a)
  have R2 := Lib.hid (R2.out.new N5a)
  have R3 := Lib.hid (R3.out.new N5a)
  have R4 := Lib.hid (R4.out.new N5a)
  have N5 := Lib.hid (N4.out.trans N5a); clear N5a
  cases hv : layOk m1 zs W H
  · have h0 : nq = 0 := by rw [NQA.out, layA_no hv]; rfl
    subst h0
    clear hv
    go_wp2_with fail
    refine (SSpilling_ans B1 m1 d1 zs W H (by omega) _ I1.out).mono ?_
    rintro e w6 ⟨A6, n6, c6, rfl, l6, r6, N6a⟩
    have s6 := N6a.le
    have I1 := Lib.hid (I1.out.new N6a)
    have R2 := Lib.hid (R2.out.new N6a)
    have R3 := Lib.hid (R3.out.new N6a)
    have R4 := Lib.hid (R4.out.new N6a)
    have N6 := Lib.hid (N5.out.trans N6a); clear N6a
    obtain rfl : nz = n6 := by have := LZ.out; omega
    have R6 := Lib.hid r6; clear l6 r6
    go_wp2_with fail
    refine (equalInts_any _ _ nz nz _ _ _ _ (by omega) (by omega) _ (R2.out.ints LZ.out) (R6.out.ints LZ.out)).mono ?_
    rw [decide_eq_true rfl]
    rintro e w7 ⟨rfl, N7a⟩
    have s7 := N7a.le
    have I1 := Lib.hid (I1.out.new N7a)
    have R2 := Lib.hid (R2.out.new N7a)
    have R3 := Lib.hid (R3.out.new N7a)
    have R4 := Lib.hid (R4.out.new N7a)
    have R6 := Lib.hid (R6.out.new N7a)
    have N7 := Lib.hid (N6.out.trans N7a); clear N7a
    go_wp2
    go_ret
    exact ⟨rfl, N7.out⟩
  · have hq : nq = m1 := by rw [NQA.out, layA_yes hv]; simp
    subst hq
    obtain ⟨hvt, hx0, hy0⟩ := layOk_iff.1 hv
    have v1 := (vtB_iff.1 hvt).1
    have nz0 : ((nq : Int) == 0) = false := by simp; omega
    have SA : spA nq zs W H = spTo zs nq W H nq := by unfold spA; rw [if_pos hv]
    have SI := Lib.hid (fun i (h0 : 0 < i) (hi : i < nq) => (show _ from sp_ins hvt hx0 hy0 h0 hi))
    have S0 := Lib.hid (sp_zero (n := nq) (zs := zs) (W := W) (H := H))
    have HSA := Lib.hid SA
    have LA := Lib.hid (fun i hi => lay_at hv (i := i) hi)
    have V4 := Lib.hid (fun k => flat4_at (layA nq zs W H) k)
    clear hv hvt hx0 hy0 SA
    have NN := Lib.hid N5.out
    obtain ⟨cg, rfl⟩ : ∃ x, x = c2 := ⟨c2, rfl⟩
    obtain ⟨b, off, rfl, hb, hc⟩ := (Sts.of_res (m := 3) R3.out LQ.out).at_ (by omega)
    obtain ⟨b', off', rfl, hb', hc'⟩ := I1.out.at_ (by omega)
    have GC := Lib.hid (fun i (hi : i < nq) V (hV : New w5 V) => (show V.cell? ⟨b, off + i * 4, none⟩ = some (.int .i64 (layR zs nq W H i).1) ∧ V.cell? ⟨b, off + i * 4 + 1, none⟩ = some (.int .i64 (layR zs nq W H i).2.1) ∧ V.cell? ⟨b, off + i * 4 + 2, none⟩ = some (.int .i64 (layR zs nq W H i).2.2.1) ∧ V.cell? ⟨b, off + i * 4 + 3, none⟩ = some (.int .i64 (layR zs nq W H i).2.2.2) by
      obtain ⟨v0, v1, v2, v3⟩ := V4.out i
      rw [LA.out i hi] at v0 v1 v2 v3
      exact ⟨(hV.cells b _ hb).trans ((hc (i * 4) (by omega)).trans (by rw [v0])), (hV.cells b _ hb).trans ((hc (i * 4 + 1) (by omega)).trans (by rw [v1])), (hV.cells b _ hb).trans ((hc (i * 4 + 2) (by omega)).trans (by rw [v2])), (hV.cells b _ hb).trans ((hc (i * 4 + 3) (by omega)).trans (by rw [v3]))⟩))
    have GT := Lib.hid (fun i (hi : i < nq * 9) V (hV : New w5 V) => (hV.cells b' (off' + i) hb').trans (hc' i hi))
    clear hc hc'
    go_wp2
    go_loopw [8] (fun i wr => ∃ j : Nat, 1 ≤ j ∧ j ≤ nq ∧ i = .int .i64 j ∧ Hid (New w5 wr)) (fun i _ => nq - (intOf i).toNat)
    case atStart => exact ⟨1, Nat.le_refl _, by omega, rfl, Lib.hid (New.refl _)⟩
    case round =>
      obtain ⟨j, hj1, hj, rfl, HQ⟩ := hrel
      have j0 : (0 : Int) ≤ (j : Int) := by omega
      by_cases hlt : j < nq
      · have ji : (j : Int) < (nq : Int) := by omega
        obtain ⟨p, a0, a1, a2, a3, pd, r0, r1, r2, r3, c0, c1, c2, c3, hp, hpl, hlp, hpd, hlk, hio, hn0, hn1, hn2, hn3, hvr, hvc, hin⟩ := SI.out j (by omega) hlt
        have p0 : (0 : Int) ≤ (p : Int) := by omega
        have pn : p < nq := by omega
        have pi : (p : Int) < (nq : Int) := by omega
        rw [← HSA.out] at hin
        have ij := Lib.hid hin
        have IO := Lib.hid hio; have N0 := Lib.hid hn0; have N1x := Lib.hid hn1; have N2x := Lib.hid hn2; have N3x := Lib.hid hn3
        replace hvr := Lib.hid hvr; replace hvc := Lib.hid hvc; replace hlk := Lib.hid hlk
        have KF := Lib.hid (fun V (hV : New wr V) => (show V.cell? ⟨b', off' + j * 9, none⟩ = some (.int .i64 (p : Int)) ∧ V.cell? ⟨b, off + p * 4, none⟩ = some (.int .i64 a0) ∧ V.cell? ⟨b, off + p * 4 + 1, none⟩ = some (.int .i64 a1) ∧ V.cell? ⟨b, off + p * 4 + 2, none⟩ = some (.int .i64 a2) ∧ V.cell? ⟨b, off + p * 4 + 3, none⟩ = some (.int .i64 a3) ∧ V.cell? ⟨b', off' + p * 9 + 4, none⟩ = some (.int .i64 pd) by
          have h0 := GT.out (j * 9) (by omega) V (HQ.out.trans hV)
          rw [hp] at h0
          have h1 := GC.out p pn V (HQ.out.trans hV)
          rw [hlp] at h1
          have h2 := GT.out (p * 9 + 4) (by omega) V (HQ.out.trans hV)
          rw [hpd] at h2
          exact ⟨h0, h1.1, h1.2.1, h1.2.2.1, h1.2.2.2, h2⟩))
        have IX := Lib.hid (fun V => (show Calls Tryz.prog 14 #[.agg #[.int .i64 a0, .int .i64 a1, .int .i64 a2, .int .i64 a3], .int .i64 pd] V fun e V' => e = .returned (.tuple #[.agg #[.int .i64 r0, .int .i64 r1, .int .i64 r2, .int .i64 r3], .bool true]) ∧ New V V' by
          have h := InsetRect_any a0 a1 a2 a3 pd V
          rw [IO.out, N0.out, N1x.out, N2x.out, N3x.out] at h
          exact h))
        clear hp hlp hpd hio hn0 hn1 hn2 hn3 hin IO N0 N1x N2x N3x
        have NC := Lib.hid (New.refl wr).drew
        have KK := KF.out _ NC.out
        have NZ := Lib.hid ((New.refl wr).alloc (.cells #[.int .i64 0, .int .i64 0, .int .i64 0, .int .i64 0] 32)).drew
        have KZ := KF.out _ NZ.out
        have RZ := Lib.hid ((Row.oneRect wr 0 0 0 0 32).new (New.refl _).drew)
        go_wp2
        go_region_held3 (fun w' => w'.cell? ⟨b', off' + j * 9, none⟩ = some (.int .i64 (p : Int)) ∧ w'.cell? ⟨b, off + p * 4, none⟩ = some (.int .i64 a0) ∧ w'.cell? ⟨b, off + p * 4 + 1, none⟩ = some (.int .i64 a1) ∧ w'.cell? ⟨b, off + p * 4 + 2, none⟩ = some (.int .i64 a2) ∧ w'.cell? ⟨b, off + p * 4 + 3, none⟩ = some (.int .i64 a3) ∧ w'.cell? ⟨b', off' + p * 9 + 4, none⟩ = some (.int .i64 pd))
          (first | exact KK | exact KZ | assumption | exact KF.out _ (by (repeat (first | exact New.refl _ | assumption | refine New.alloc ?_ _ | refine New.drew ?_ | refine New.drewN ?_ _ | refine New.setCell ?_ (by first | omega | (simp; omega) | (simp; done)) _ | refine New.trans ?_ (by assumption)))))
          (first
            | (go_at_call 14; with_reducible refine (IX.out wr.drew).mono ?_; rintro e wk ⟨rfl, Nk⟩; (have KK := KF.out wk (NC.out.trans Nk)); (have NK := Lib.hid (NC.out.trans Nk)); clear Nk)
            | (go_at_call 14; with_reducible refine (IX.out (wr.alloc (.cells #[.int .i64 0, .int .i64 0, .int .i64 0, .int .i64 0] 32)).drew).mono ?_; rintro e wk ⟨rfl, Nk⟩; (have KK := KF.out wk (NZ.out.trans Nk)); (have NK := Lib.hid (NZ.out.trans Nk)); (have RK := Lib.hid (RZ.out.new Nk)); (have k0_ := RK.out.c 0 (by simp)); (have k1_ := RK.out.c 1 (by simp)); (have k2_ := RK.out.c 2 (by simp)); (have k3_ := RK.out.c 3 (by simp)); (have z0_ := RK.out.f 0 (by simp)); (have z1_ := RK.out.f 1 (by simp)); (have z2_ := RK.out.f 2 (by simp)); (have z3_ := RK.out.f 3 (by simp)); clear Nk))
        · have RS := Row.oneRect wk r0 r1 r2 r3 32
          have N7 := Lib.hid (show New wr (wk.alloc (.cells #[.int .i64 r0, .int .i64 r1, .int .i64 r2, .int .i64 r3] 32)) from NK.out.alloc _)
          clear KK KZ NC
          generalize wk.heap.size = g at RS ⊢
          generalize wk.alloc (.cells #[.int .i64 r0, .int .i64 r1, .int .i64 r2, .int .i64 r3] 32) = W7 at N7 RS ⊢
          have gz := RS.lt
          have IS := Lib.hid (fun V (hV : New wr V) => isInL_any _ nz cg j _ (by omega) V ((R2.out.new (HQ.out.trans hV)).ints LZ.out))
          rw [ij.out] at IS
          have IN := Lib.hid (fun V => inside_any c0 c1 c2 c3 r0 r1 r2 r3 V hvc.out hvr.out)
          have KX := Lib.hid (fun V (hV : New W7 V) => (show V.cell? ⟨b, off + j * 4, none⟩ = some (.int .i64 c0) ∧ V.cell? ⟨b, off + j * 4 + 1, none⟩ = some (.int .i64 c1) ∧ V.cell? ⟨b, off + j * 4 + 2, none⟩ = some (.int .i64 c2) ∧ V.cell? ⟨b, off + j * 4 + 3, none⟩ = some (.int .i64 c3) ∧ V.cell? ⟨g, 0, none⟩ = some (.int .i64 r0) ∧ V.cell? ⟨g, 1, none⟩ = some (.int .i64 r1) ∧ V.cell? ⟨g, 2, none⟩ = some (.int .i64 r2) ∧ V.cell? ⟨g, 3, none⟩ = some (.int .i64 r3) from ⟨(GC.out j hlt V (HQ.out.trans (N7.out.trans hV))).1.trans (by rw [hlk.out]), (GC.out j hlt V (HQ.out.trans (N7.out.trans hV))).2.1.trans (by rw [hlk.out]), (GC.out j hlt V (HQ.out.trans (N7.out.trans hV))).2.2.1.trans (by rw [hlk.out]), (GC.out j hlt V (HQ.out.trans (N7.out.trans hV))).2.2.2.trans (by rw [hlk.out]), allRectD (RS.new hV)⟩))
          obtain ⟨sb, hsb⟩ : ∃ sb, insB c0 c1 c2 c3 r0 r1 r2 r3 = sb := ⟨_, rfl⟩
          rw [hsb] at IS IN
          have NC := Lib.hid (New.refl W7).drew
          have KK := KX.out _ NC.out
          clear RS hsb
          go_wp2
          go_region_held3 (fun w' => w'.cell? ⟨b, off + j * 4, none⟩ = some (.int .i64 c0) ∧ w'.cell? ⟨b, off + j * 4 + 1, none⟩ = some (.int .i64 c1) ∧ w'.cell? ⟨b, off + j * 4 + 2, none⟩ = some (.int .i64 c2) ∧ w'.cell? ⟨b, off + j * 4 + 3, none⟩ = some (.int .i64 c3) ∧ w'.cell? ⟨g, 0, none⟩ = some (.int .i64 r0) ∧ w'.cell? ⟨g, 1, none⟩ = some (.int .i64 r1) ∧ w'.cell? ⟨g, 2, none⟩ = some (.int .i64 r2) ∧ w'.cell? ⟨g, 3, none⟩ = some (.int .i64 r3))
            (first | exact KK | assumption)
            (first
              | (go_at_call 15; with_reducible refine (IS.out _ (N7.out.trans NC.out)).mono ?_; rintro e wd ⟨rfl, rfl⟩)
              | (go_at_call 16; with_reducible refine (IN.out _).mono ?_; rintro e wd ⟨rfl, Nd⟩; (have KK := KX.out wd (NC.out.trans Nd)); (have NB := Lib.hid (NC.out.trans Nd)); clear Nd))
          cases sb
          all_goals
            go_wp2
            go_roundw
            case rel => exact ⟨j + 1, by omega, by omega, by go_num, Lib.hid (HQ.out.trans (N7.out.trans NB.out))⟩
            case measure => simp [intOf]; omega
        · have RS : Row ((((wk.setCell ⟨wr.heap.size, 0, none⟩ (.int .i64 r0)).setCell ⟨wr.heap.size, 1, none⟩ (.int .i64 r1)).setCell ⟨wr.heap.size, 2, none⟩ (.int .i64 r2)).setCell ⟨wr.heap.size, 3, none⟩ (.int .i64 r3)) wr.heap.size [r0, r1, r2, r3] := (((RK.out.set_ (k := 0) (by simp) r0).set_ (k := 1) (by simp) r1).set_ (k := 2) (by simp) r2).set_ (k := 3) (by simp) r3
          have N7 := Lib.hid (show New wr ((((wk.setCell ⟨wr.heap.size, 0, none⟩ (.int .i64 r0)).setCell ⟨wr.heap.size, 1, none⟩ (.int .i64 r1)).setCell ⟨wr.heap.size, 2, none⟩ (.int .i64 r2)).setCell ⟨wr.heap.size, 3, none⟩ (.int .i64 r3)) from (((NK.out.setCell (Nat.le_refl _) _).setCell (Nat.le_refl _) _).setCell (Nat.le_refl _) _).setCell (Nat.le_refl _) _)
          clear KK KZ NC k0_ k1_ k2_ k3_ z0_ z1_ z2_ z3_ RK
          generalize ((((wk.setCell ⟨wr.heap.size, 0, none⟩ (.int .i64 r0)).setCell ⟨wr.heap.size, 1, none⟩ (.int .i64 r1)).setCell ⟨wr.heap.size, 2, none⟩ (.int .i64 r2)).setCell ⟨wr.heap.size, 3, none⟩ (.int .i64 r3)) = W7 at N7 RS ⊢
          generalize hgg : wr.heap.size = g at RS ⊢
          clear hgg
          have gz := RS.lt
          have IS := Lib.hid (fun V (hV : New wr V) => isInL_any _ nz cg j _ (by omega) V ((R2.out.new (HQ.out.trans hV)).ints LZ.out))
          rw [ij.out] at IS
          have IN := Lib.hid (fun V => inside_any c0 c1 c2 c3 r0 r1 r2 r3 V hvc.out hvr.out)
          have KX := Lib.hid (fun V (hV : New W7 V) => (show V.cell? ⟨b, off + j * 4, none⟩ = some (.int .i64 c0) ∧ V.cell? ⟨b, off + j * 4 + 1, none⟩ = some (.int .i64 c1) ∧ V.cell? ⟨b, off + j * 4 + 2, none⟩ = some (.int .i64 c2) ∧ V.cell? ⟨b, off + j * 4 + 3, none⟩ = some (.int .i64 c3) ∧ V.cell? ⟨g, 0, none⟩ = some (.int .i64 r0) ∧ V.cell? ⟨g, 1, none⟩ = some (.int .i64 r1) ∧ V.cell? ⟨g, 2, none⟩ = some (.int .i64 r2) ∧ V.cell? ⟨g, 3, none⟩ = some (.int .i64 r3) from ⟨(GC.out j hlt V (HQ.out.trans (N7.out.trans hV))).1.trans (by rw [hlk.out]), (GC.out j hlt V (HQ.out.trans (N7.out.trans hV))).2.1.trans (by rw [hlk.out]), (GC.out j hlt V (HQ.out.trans (N7.out.trans hV))).2.2.1.trans (by rw [hlk.out]), (GC.out j hlt V (HQ.out.trans (N7.out.trans hV))).2.2.2.trans (by rw [hlk.out]), allRectD (RS.new hV)⟩))
          obtain ⟨sb, hsb⟩ : ∃ sb, insB c0 c1 c2 c3 r0 r1 r2 r3 = sb := ⟨_, rfl⟩
          rw [hsb] at IS IN
          have NC := Lib.hid (New.refl W7).drew
          have KK := KX.out _ NC.out
          clear RS hsb
          go_wp2
          go_region_held3 (fun w' => w'.cell? ⟨b, off + j * 4, none⟩ = some (.int .i64 c0) ∧ w'.cell? ⟨b, off + j * 4 + 1, none⟩ = some (.int .i64 c1) ∧ w'.cell? ⟨b, off + j * 4 + 2, none⟩ = some (.int .i64 c2) ∧ w'.cell? ⟨b, off + j * 4 + 3, none⟩ = some (.int .i64 c3) ∧ w'.cell? ⟨g, 0, none⟩ = some (.int .i64 r0) ∧ w'.cell? ⟨g, 1, none⟩ = some (.int .i64 r1) ∧ w'.cell? ⟨g, 2, none⟩ = some (.int .i64 r2) ∧ w'.cell? ⟨g, 3, none⟩ = some (.int .i64 r3))
            (first | exact KK | assumption)
            (first
              | (go_at_call 15; with_reducible refine (IS.out _ (N7.out.trans NC.out)).mono ?_; rintro e wd ⟨rfl, rfl⟩)
              | (go_at_call 16; with_reducible refine (IN.out _).mono ?_; rintro e wd ⟨rfl, Nd⟩; (have KK := KX.out wd (NC.out.trans Nd)); (have NB := Lib.hid (NC.out.trans Nd)); clear Nd))
          cases sb
          all_goals
            go_wp2
            go_roundw
            case rel => exact ⟨j + 1, by omega, by omega, by go_num, Lib.hid (HQ.out.trans (N7.out.trans NB.out))⟩
            case measure => simp [intOf]; omega
      · have IS := Lib.hid (isInL_any _ nz cg 0 _ (by omega) wr ((R2.out.new HQ.out).ints LZ.out))
        rw [S0.out] at IS
        go_wp2_with (go_at_call 15; refine IS.out.mono ?_; rintro e wd ⟨rfl, rfl⟩)
        go_ret
        exact ⟨rfl, NN.out.trans HQ.out⟩
end Go.Proofs.YtokcbfnmnccacaaGreat
