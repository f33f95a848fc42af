/- The law FnHitBoxInner, walked: no box directly in the box that is hit has the point. Condition: the code can be read. -/
import Derived.Test.YtokcbfnmnccacaaDrawHb
import Derived.Test.YtokcbfnmnccacaaHitP
import Derived.Test.YtokcbfnmnccacaaHitI
import Derived.Test.YtokcbfnmnccacaaZF
namespace Go.Proofs.Ytokcbfnmnccacaa
open Go.RowKit

set_option maxHeartbeats 4000000 in
theorem lawHitBoxInner (A : Option Addr) (n c : Nat) (hn : n ≤ maxLen) (hnc : n ≤ c) (w : World) (hb : Bytes w A n) :
    Calls Try.prog 8 #[.slice A n c] w fun e w' => e = .returned (.bool true) ∧ New w w' := by
  have HB := Lib.hid hb; have HM := Lib.hid hn
  clear hb
  unfold maxLen at hn
  by_cases hbig : 1048576 < n
  · go_enter Try.func8, Try.ntmps8
    go_wp2
    go_ret
    exact ⟨rfl, by (repeat (first | exact New.refl _ | assumption | refine New.alloc ?_ _ | refine New.drew ?_ | refine New.drewN ?_ _ | refine New.setCell ?_ (by first | omega | (simp; omega) | (simp; done)) _ | refine New.trans ?_ (by assumption)))⟩
  have hm : (n : Int) ≤ 1048576 := by omega
  have hm0 : (0 : Int) ≤ (n : Int) := by omega
  go_enter Try.func8, Try.ntmps8
  go_wp2_with fail
  refine (DrawHitBox_any A n c HM.out hnc _ HB.out).mono ?_
  rintro e w1 ⟨B1, m1, d1, zs, W, H, x, y, rfl, I1, l1, kd, Wb, Hb, N1a⟩
  have s1 := N1a.le
  have N1 := Lib.hid ((New.refl w).trans N1a); clear N1a
  replace I1 := Lib.hid I1
  obtain ⟨z, HZ⟩ : ∃ z, Hid (hitA zs m1 W H x y = z) := ⟨_, Lib.hid rfl⟩
  obtain ⟨nq, LQ⟩ : ∃ nq, Hid ((flat4 (layA m1 zs W H)).length = nq * 4) := ⟨(layA m1 zs W H).length, Lib.hid (flat4_len _)⟩
  have nqa : nq = (layA m1 zs W H).length := by have h1 := LQ.out; rw [flat4_len] at h1; omega
  have nq16 : nq ≤ 16 := by rw [nqa]; exact layA_len
  have nqi : (nq : Int) ≤ 16 := by omega
  have nqj : (0 : Int) ≤ (nq : Int) := by omega
  go_wp2_with fail
  refine (HitBox_any B1 m1 d1 zs W H x y (by omega) _ I1.out).mono ?_
  rw [HZ.out]
  rintro e w2 ⟨rfl, N2a⟩
  have s2 := N2a.le
  have I1 := Lib.hid (I1.out.new N2a)
  have N2 := Lib.hid (N1.out.trans N2a); clear N2a
  go_wp2_with fail
  refine (SHitBox_any B1 m1 d1 zs W H x y (by omega) _ I1.out).mono ?_
  rw [HZ.out]
  rintro e w3 ⟨rfl, N3a⟩
  have s3 := N3a.le
  have I1 := Lib.hid (I1.out.new N3a)
  have N3 := Lib.hid (N2.out.trans N3a); clear N3a
  by_cases hz : z < 0
  · skip
    go_wp2_with fail
    refine (SHitBox_any B1 m1 d1 zs W H x y (by omega) _ I1.out).mono ?_
    rw [HZ.out]
    rintro e w4 ⟨rfl, N4a⟩
    have s4 := N4a.le
    have I1 := Lib.hid (I1.out.new N4a)
    have N4 := Lib.hid (N3.out.trans N4a); clear N4a
    go_wp2
    go_ret
    exact ⟨rfl, N4.out⟩
  · obtain ⟨t, rfl⟩ : ∃ t : Nat, z = (t : Int) := ⟨z.toNat, by omega⟩
    have hv : layOk m1 zs W H = true := by
      cases h : layOk m1 zs W H
      · have := HZ.out; rw [hitA_no h] at this; omega
      · rfl
    have hq : nq = m1 := by rw [nqa, layA_yes hv]; simp
    subst hq
    have HT := Lib.hid (hit_in hv HZ.out)
    have htn := HT.out.1
    have HI := Lib.hid (fun j (hj : j ∈ kidL zs nq t) => hit_inner hv HZ.out hj)
    have hvt := (layOk_iff.1 hv).1
    have KE := Lib.hid (kidsA_at hvt htn)
    have k8 := kids_le (a := t) hvt
    have IRR := Lib.hid (fun i (hi : i < nq) => inB_iR (x := x) (y := y) hv hi)
    have LA := Lib.hid (fun i hi => lay_at hv (i := i) hi)
    have V4 := Lib.hid (fun k => flat4_at (layA nq zs W H) k)
    obtain ⟨nz, hnz⟩ : ∃ nz, (kidL zs nq t).length = nz := ⟨_, rfl⟩
    rw [hnz] at k8
    have LZ : Hid ((kidsA nq zs (t : Int)).length = nz) := Lib.hid (by rw [KE.out, List.length_map]; exact hnz)
    have nzi : (0 : Int) ≤ (nz : Int) := by omega
    have nz8 : (nz : Int) ≤ 8 := by omega
    have t0 : (0 : Int) ≤ (t : Int) := by omega
    have ti : (t : Int) < (nq : Int) := by omega
    have HNZ := Lib.hid hnz
    clear hz hv nqa hvt hnz
    go_wp2_with fail
    refine (LayoutTree_ans B1 nq d1 zs W H (by omega) _ I1.out).mono ?_
    rintro e w4 ⟨A4, n4, c4, rfl, l4, r4, N4a⟩
    have s4 := N4a.le
    have I1 := Lib.hid (I1.out.new N4a)
    have N4 := Lib.hid (N3.out.trans N4a); clear N4a
    obtain rfl : nq = n4 := by have := LQ.out; omega
    have R4 := Lib.hid r4; clear l4 r4
    go_wp2_with fail
    refine (KidsOf_ans _ nq d1 zs (t : Int) (by omega) _ I1.out).mono ?_
    rintro e w5 ⟨A5, n5, c5, rfl, l5, r5, N5a⟩
    have s5 := N5a.le
    have I1 := Lib.hid (I1.out.new N5a)
    have R4 := Lib.hid (R4.out.new N5a)
    have N5 := Lib.hid (N4.out.trans N5a); clear N5a
    obtain rfl : nz = n5 := by have := LZ.out; omega
    have R5 := Lib.hid r5; clear l5 r5
    have NN := Lib.hid N5.out
    go_wp2
    go_loopw [11] (fun i wr => ∃ q : Nat, q ≤ nz ∧ i = .int .i64 q ∧ Hid (New w5 wr)) (fun i _ => nz - (intOf i).toNat)
    case atStart => exact ⟨0, Nat.zero_le _, rfl, Lib.hid (New.refl _)⟩
    case round =>
      obtain ⟨q, hq, rfl, HQ⟩ := hrel
      have q0 : (0 : Int) ≤ (q : Int) := by omega
      by_cases hlt : q < nz
      · have qi : (q : Int) < (nz : Int) := by omega
        obtain ⟨b, off, rfl, hb, hc⟩ := (Sts.of_res (m := 3) R4.out LQ.out).at_ (by omega)
        obtain ⟨b2, off2, rfl, hb2, hc2⟩ := (R5.out.ints LZ.out).at_ (by omega)
        have g1 := (HQ.out.cells b2 _ hb2).trans (hc2 q hlt)
        rw [KE.out, kid_at] at g1
        have hu := kid_get (show q < (kidL zs nq t).length by rw [HNZ.out]; exact hlt)
        have hin := HI.out _ hu
        have hun := (kid_mem.1 hu).1
        generalize (kidL zs nq t).getD q 0 = u at *
        have u0 : (0 : Int) ≤ (u : Int) := by omega
        have ui : (u : Int) < (nq : Int) := by omega
        obtain ⟨v0, v1, v2, v3⟩ := V4.out u
        rw [LA.out u hun] at v0 v1 v2 v3
        have GC := Lib.hid (fun V (hV : New w5 V) => (show V.cell? ⟨b, off + u * 4, none⟩ = some (.int .i64 (layR zs nq W H u).1) ∧ V.cell? ⟨b, off + u * 4 + 1, none⟩ = some (.int .i64 (layR zs nq W H u).2.1) ∧ V.cell? ⟨b, off + u * 4 + 2, none⟩ = some (.int .i64 (layR zs nq W H u).2.2.1) ∧ V.cell? ⟨b, off + u * 4 + 3, none⟩ = some (.int .i64 (layR zs nq W H u).2.2.2) from
          ⟨(hV.cells b _ hb).trans ((hc (u * 4) (by omega)).trans (by rw [v0])), (hV.cells b _ hb).trans ((hc (u * 4 + 1) (by omega)).trans (by rw [v1])), (hV.cells b _ hb).trans ((hc (u * 4 + 2) (by omega)).trans (by rw [v2])), (hV.cells b _ hb).trans ((hc (u * 4 + 3) (by omega)).trans (by rw [v3]))⟩))
        have ir := Lib.hid ((IRR.out u hun).trans hin)
        obtain ⟨⟨x0, x1, x2, x3⟩, hq4⟩ : ∃ q4, layR zs nq W H u = q4 := ⟨_, rfl⟩
        rw [hq4] at ir GC
        have IB := Lib.hid (fun V => (show Calls Try.prog 29 #[.agg #[.int .i64 x0, .int .i64 x1, .int .i64 x2, .int .i64 x3], .int .i64 x, .int .i64 y] V fun e V' => e = .returned (.bool false) ∧ New V V' by have h := InRect_any x0 x1 x2 x3 x y V; rw [ir.out] at h; exact h))
        obtain ⟨y0_, y1_, y2_, y3_⟩ := GC.out wr HQ.out
        dsimp only at y0_ y1_ y2_ y3_
        have zb : b < wr.heap.size := Nat.lt_of_lt_of_le hb HQ.out.le
        have zb2 : b2 < wr.heap.size := Nat.lt_of_lt_of_le hb2 HQ.out.le
        have KK : wr.drew.cell? ⟨b, off + u * 4, none⟩ = some (.int .i64 x0) ∧ wr.drew.cell? ⟨b, off + u * 4 + 1, none⟩ = some (.int .i64 x1) ∧ wr.drew.cell? ⟨b, off + u * 4 + 2, none⟩ = some (.int .i64 x2) ∧ wr.drew.cell? ⟨b, off + u * 4 + 3, none⟩ = some (.int .i64 x3) ∧ wr.drew.cell? ⟨b2, off2 + q, none⟩ = some (.int .i64 (u : Int)) := ⟨y0_, y1_, y2_, y3_, g1⟩
        clear v0 v1 v2 v3 hc hc2 hq4 hin hun hu
        go_wp2_with (go_at_call 29; refine (IB.out _).mono ?_; rintro e wc ⟨rfl, Nc⟩)
        go_roundw
        case rel => exact ⟨q + 1, by omega, by go_num, Lib.hid (HQ.out.trans (by (repeat (first | exact New.refl _ | assumption | refine New.alloc ?_ _ | refine New.drew ?_ | refine New.drewN ?_ _ | refine New.setCell ?_ (by first | omega | (simp; omega) | (simp; done)) _ | refine New.trans ?_ (by assumption)))))⟩
        case measure => simp [intOf]; omega
      · go_wp2
        go_ret
        exact ⟨rfl, NN.out.trans HQ.out⟩
end Go.Proofs.Ytokcbfnmnccacaa
