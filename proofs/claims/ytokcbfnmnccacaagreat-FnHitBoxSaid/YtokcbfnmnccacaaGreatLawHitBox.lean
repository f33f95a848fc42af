/- The law FnHitBox, walked: the point is in the rectangles of the box that is hit and of all boxes around it. Condition: the code can be read. -/
import Derived.Test.YtokcbfnmnccacaaGreatDrawHb
import Derived.Test.YtokcbfnmnccacaaGreatSbP
import Derived.Test.YtokcbfnmnccacaaGreatHitI
import Derived.Test.YtokcbfnmnccacaaGreatYD
namespace Go.Proofs.YtokcbfnmnccacaaGreat
open Go.RowKit

set_option maxHeartbeats 4000000 in
theorem lawHitBox (A : Option Addr) (n c : Nat) (hn : n ≤ maxLen) (hnc : n ≤ c) (w : World) (hb : Bytes w A n) :
    Calls Tryz.prog 8 #[.slice A n c] w fun e w' => e = .returned (.bool true) ∧ New w w' := by
  have HB := Lib.hid hb; have HM := Lib.hid hn
  clear hb
  unfold maxLen at hn
  by_cases hbig : 1048576 < n
  · go_enter Tryz.func8, Tryz.ntmps8
    go_wp2
    go_ret
    exact ⟨rfl, by (repeat (first | exact New.refl _ | assumption | refine New.alloc ?_ _ | refine New.drew ?_ | refine New.drewN ?_ _ | refine New.setCell ?_ (by first | omega | (simp; omega) | (simp; done)) _ | refine New.trans ?_ (by assumption)))⟩
  have hm : (n : Int) ≤ 1048576 := by omega
  have hm0 : (0 : Int) ≤ (n : Int) := by omega
  go_enter Tryz.func8, Tryz.ntmps8
  go_wp2_with fail
  refine (DrawHitBox_any A n c HM.out hnc _ HB.out).mono ?_
  rintro e w1 ⟨B1, m1, d1, zs, W, H, x, y, rfl, I1, l1, kd, Wb, Hb, N1a⟩
  have s1 := N1a.le
  have N1 := Lib.hid ((New.refl w).trans N1a); clear N1a
  replace I1 := Lib.hid I1
  obtain ⟨z, HZ⟩ : ∃ z, Hid (hitA zs m1 W H x y = z) := ⟨_, Lib.hid rfl⟩
  obtain ⟨nq, LQ⟩ : ∃ nq, Hid ((flat4 (layA m1 zs W H)).length = nq * 4) := ⟨(layA m1 zs W H).length, Lib.hid (flat4_len _)⟩
  have nqa : nq = (layA m1 zs W H).length := by have h1 := LQ.out; rw [flat4_len] at h1; omega
  have nq16 : nq ≤ 16 := by rw [nqa]; exact layA_len
  have nqi : (nq : Int) ≤ 16 := by omega
  have nqj : (0 : Int) ≤ (nq : Int) := by omega
  go_wp2_with fail
  refine (HitBox_any B1 m1 d1 zs W H x y (by omega) _ I1.out).mono ?_
  rw [HZ.out]
  rintro e w2 ⟨rfl, N2a⟩
  have s2 := N2a.le
  have I1 := Lib.hid (I1.out.new N2a)
  have N2 := Lib.hid (N1.out.trans N2a); clear N2a
  go_wp2_with fail
  refine (SHitBox_any B1 m1 d1 zs W H x y (by omega) _ I1.out).mono ?_
  rw [HZ.out]
  rintro e w3 ⟨rfl, N3a⟩
  have s3 := N3a.le
  have I1 := Lib.hid (I1.out.new N3a)
  have N3 := Lib.hid (N2.out.trans N3a); clear N3a
  by_cases hz : z < 0
  · skip
    go_wp2_with fail
    refine (SHitBox_any B1 m1 d1 zs W H x y (by omega) _ I1.out).mono ?_
    rw [HZ.out]
    rintro e w4 ⟨rfl, N4a⟩
    have s4 := N4a.le
    have I1 := Lib.hid (I1.out.new N4a)
    have N4 := Lib.hid (N3.out.trans N4a); clear N4a
    go_wp2
    go_ret
    exact ⟨rfl, N4.out⟩
  · obtain ⟨t, rfl⟩ : ∃ t : Nat, z = (t : Int) := ⟨z.toNat, by omega⟩
    have hv : layOk m1 zs W H = true := by
      cases h : layOk m1 zs W H
      · have := HZ.out; rw [hitA_no h] at this; omega
      · rfl
    have hq : nq = m1 := by rw [nqa, layA_yes hv]; simp
    subst hq
    have htn := (hit_in hv HZ.out).1
    have HP := Lib.hid (fun q (hq : q < (pathL zs t).length) => hit_path hv HZ.out hq)
    have hvt := (layOk_iff.1 hv).1
    have d5 := dep_le5 hvt htn
    obtain ⟨np, hnp⟩ : ∃ np, (pathL zs t).length = np := ⟨_, rfl⟩
    have np6 : np ≤ 6 ∧ 1 ≤ np := by rw [path_len] at hnp; omega
    have PE := Lib.hid (pathA_at hvt htn)
    have LP : Hid ((pathA nq zs (t : Int)).length = np) := Lib.hid (by rw [PE.out, List.length_map]; exact hnp)
    have IRR := Lib.hid (fun i (hi : i < nq) => inB_iR (x := x) (y := y) hv hi)
    have LA := Lib.hid (fun i hi => lay_at hv (i := i) hi)
    have V4 := Lib.hid (fun k => flat4_at (layA nq zs W H) k)
    have npi : (0 : Int) ≤ (np : Int) := by omega
    have np8 : (np : Int) ≤ 8 := by omega
    have np1 : (0 : Int) < (np : Int) := by omega
    have t0 : (0 : Int) ≤ (t : Int) := by omega
    have ti : (t : Int) < (nq : Int) := by omega
    have HNP := Lib.hid hnp
    clear hz hv nqa hvt hnp d5
    go_wp2_with fail
    refine (LayoutTree_ans B1 nq d1 zs W H (by omega) _ I1.out).mono ?_
    rintro e w4 ⟨A4, n4, c4, rfl, l4, r4, N4a⟩
    have s4 := N4a.le
    have I1 := Lib.hid (I1.out.new N4a)
    have N4 := Lib.hid (N3.out.trans N4a); clear N4a
    obtain rfl : nq = n4 := by have := LQ.out; omega
    have R4 := Lib.hid r4; clear l4 r4
    go_wp2_with fail
    refine (PathTo_ans _ nq d1 zs (t : Int) (by omega) _ I1.out).mono ?_
    rintro e w5 ⟨A5, n5, c5, rfl, l5, r5, N5a⟩
    have s5 := N5a.le
    have I1 := Lib.hid (I1.out.new N5a)
    have R4 := Lib.hid (R4.out.new N5a)
    have N5 := Lib.hid (N4.out.trans N5a); clear N5a
    obtain rfl : np = n5 := by have := LP.out; omega
    have R5 := Lib.hid r5; clear l5 r5
    have NN := Lib.hid N5.out
    go_wp2
    go_loopw [11] (fun i wr => ∃ q : Nat, q ≤ np ∧ i = .int .i64 q ∧ Hid (New w5 wr)) (fun i _ => np - (intOf i).toNat)
    case atStart => exact ⟨0, Nat.zero_le _, rfl, Lib.hid (New.refl _)⟩
    case round =>
      obtain ⟨q, hq, rfl, HQ⟩ := hrel
      have q0 : (0 : Int) ≤ (q : Int) := by omega
      by_cases hlt : q < np
      · have qi : (q : Int) < (np : Int) := by omega
        obtain ⟨b, off, rfl, hb, hc⟩ := (Sts.of_res (m := 3) R4.out LQ.out).at_ (by omega)
        obtain ⟨b2, off2, rfl, hb2, hc2⟩ := (R5.out.ints LP.out).at_ (by omega)
        have g1 := (HQ.out.cells b2 _ hb2).trans (hc2 q hlt)
        rw [PE.out, getD_map] at g1
        obtain ⟨hun, hin⟩ := HP.out q (by rw [HNP.out]; exact hlt)
        generalize (pathL zs t).getD q 0 = u at *
        have u0 : (0 : Int) ≤ (u : Int) := by omega
        have ui : (u : Int) < (nq : Int) := by omega
        have un : ¬ (nq : Int) ≤ (u : Int) := by omega
        have un2 : ¬ nq ≤ u := by omega
        obtain ⟨v0, v1, v2, v3⟩ := V4.out u
        rw [LA.out u hun] at v0 v1 v2 v3
        have GC := Lib.hid (fun V (hV : New w5 V) => (show V.cell? ⟨b, off + u * 4, none⟩ = some (.int .i64 (layR zs nq W H u).1) ∧ V.cell? ⟨b, off + u * 4 + 1, none⟩ = some (.int .i64 (layR zs nq W H u).2.1) ∧ V.cell? ⟨b, off + u * 4 + 2, none⟩ = some (.int .i64 (layR zs nq W H u).2.2.1) ∧ V.cell? ⟨b, off + u * 4 + 3, none⟩ = some (.int .i64 (layR zs nq W H u).2.2.2) from
          ⟨(hV.cells b _ hb).trans ((hc (u * 4) (by omega)).trans (by rw [v0])), (hV.cells b _ hb).trans ((hc (u * 4 + 1) (by omega)).trans (by rw [v1])), (hV.cells b _ hb).trans ((hc (u * 4 + 2) (by omega)).trans (by rw [v2])), (hV.cells b _ hb).trans ((hc (u * 4 + 3) (by omega)).trans (by rw [v3]))⟩))
        have ir := Lib.hid ((IRR.out u hun).trans hin)
        obtain ⟨⟨x0, x1, x2, x3⟩, hq4⟩ : ∃ q4, layR zs nq W H u = q4 := ⟨_, rfl⟩
        rw [hq4] at ir GC
        have IB := Lib.hid (fun V => (show Calls Tryz.prog 27 #[.agg #[.int .i64 x0, .int .i64 x1, .int .i64 x2, .int .i64 x3], .int .i64 x, .int .i64 y] V fun e V' => e = .returned (.bool true) ∧ New V V' by have h := InRect_any x0 x1 x2 x3 x y V; rw [ir.out] at h; exact h))
        obtain ⟨y0_, y1_, y2_, y3_⟩ := GC.out wr HQ.out
        dsimp only at y0_ y1_ y2_ y3_
        have zb : b < wr.heap.size := Nat.lt_of_lt_of_le hb HQ.out.le
        have zb2 : b2 < wr.heap.size := Nat.lt_of_lt_of_le hb2 HQ.out.le
        clear v0 v1 v2 v3 hc hc2 hq4 hin hun
        go_wp2_with (go_at_call 27; refine (IB.out _).mono ?_; rintro e wc ⟨rfl, Nc⟩)
        go_roundw
        case rel => exact ⟨q + 1, by omega, by go_num, Lib.hid (HQ.out.trans (by (repeat (first | exact New.refl _ | assumption | refine New.alloc ?_ _ | refine New.drew ?_ | refine New.drewN ?_ _ | refine New.setCell ?_ (by first | omega | (simp; omega) | (simp; done)) _ | refine New.trans ?_ (by assumption)))))⟩
        case measure => simp [intOf]; omega
      · go_wp2
        go_ret
        exact ⟨ret_bool (by simp; omega), NN.out.trans HQ.out⟩
end Go.Proofs.YtokcbfnmnccacaaGreat
