/- The law FnSeenBoxesAll, walked: a view that is a box's own rectangle sees the box, if it has points. Condition: the code can be read. -/
import Derived.Test.YtokcbfnmnccacaaGreatDrawSb
import Derived.Test.YtokcbfnmnccacaaGreatSbP
import Derived.Test.YtokcbfnmnccacaaGreatZW
import Derived.Deep.RegionHeld3
namespace Go.Proofs.YtokcbfnmnccacaaGreat
open Go.RowKit

theorem allRectD {w : World} {g : Nat} {y0 y1 y2 y3 : Int} (h : Row w g [y0, y1, y2, y3]) : w.cell? ⟨g, 0, none⟩ = some (.int .i64 y0) ∧ w.cell? ⟨g, 1, none⟩ = some (.int .i64 y1) ∧ w.cell? ⟨g, 2, none⟩ = some (.int .i64 y2) ∧ w.cell? ⟨g, 3, none⟩ = some (.int .i64 y3) :=
  ⟨by simpa using h.c 0 (by simp), by simpa using h.c 1 (by simp), by simpa using h.c 2 (by simp), by simpa using h.c 3 (by simp)⟩
set_option maxRecDepth 100000 in
set_option maxHeartbeats 4000000 in
theorem lawSeenBoxesAll (A : Option Addr) (n c : Nat) (hn : n ≤ maxLen) (hnc : n ≤ c) (w : World) (hb : Bytes w A n) :
    Calls Tryz.prog 7 #[.slice A n c] w fun e w' => e = .returned (.bool true) ∧ New w w' := by
  have HB := Lib.hid hb; have HM := Lib.hid hn
  clear hb
  unfold maxLen at hn
  by_cases hbig : 1048576 < n
  · go_enter Tryz.func7, Tryz.ntmps7
    go_wp2
    go_ret
    exact ⟨rfl, by (repeat (first | exact New.refl _ | assumption | refine New.alloc ?_ _ | refine New.drew ?_ | refine New.drewN ?_ _ | refine New.setCell ?_ (by first | omega | (simp; omega) | (simp; done)) _ | refine New.trans ?_ (by assumption)))⟩
  have hm : (n : Int) ≤ 1048576 := by omega
  have hm0 : (0 : Int) ≤ (n : Int) := by omega
  go_enter Tryz.func7, Tryz.ntmps7
  go_wp2_with fail
  refine (DrawSeenBoxes_any A n c HM.out hnc _ HB.out).mono ?_
  rintro e w1 ⟨B1, m1, d1, zs, W, H, v0, v1, v2, v3, rfl, I1, l1, kd, Wb, Hb, N1a⟩
  have s1 := N1a.le
  have N1 := Lib.hid ((New.refl w).trans N1a); clear N1a
  replace I1 := Lib.hid I1
  have RV := Lib.hid (Row.oneRect w1 v0 v1 v2 v3 32)
  have I1 := Lib.hid (I1.out.new ((New.refl w1).alloc (.cells #[.int .i64 v0, .int .i64 v1, .int .i64 v2, .int .i64 v3] 32)))
  have N1 := Lib.hid (N1.out.alloc (.cells #[.int .i64 v0, .int .i64 v1, .int .i64 v2, .int .i64 v3] 32))
  go_upto_region 4 with fail
  generalize hw2 : w1.alloc (.cells #[.int .i64 v0, .int .i64 v1, .int .i64 v2, .int .i64 v3] 32) = w2 at N1 RV I1 ⊢
  clear hw2
  obtain ⟨nz, LZ⟩ : ∃ nz, Hid ((sbA m1 zs W H v0 v1 v2 v3).length = nz) := ⟨_, Lib.hid rfl⟩
  have nz16 : nz ≤ 16 := by have := LZ.out; have := sbA_len (n := m1) (zs := zs) (W := W) (H := H) (v0 := v0) (v1 := v1) (v2 := v2) (v3 := v3); omega
  have nzi : (nz : Int) ≤ 16 := by omega
  have nzj : (0 : Int) ≤ (nz : Int) := by omega
  obtain ⟨nq, LQ⟩ : ∃ nq, Hid ((flat4 (layA m1 zs W H)).length = nq * 4) := ⟨(layA m1 zs W H).length, Lib.hid (flat4_len _)⟩
  have nqa : nq = (layA m1 zs W H).length := by have h1 := LQ.out; rw [flat4_len] at h1; omega
  have nq16 : nq ≤ 16 := by rw [nqa]; exact layA_len
  have nqi : (nq : Int) ≤ 16 := by omega
  have nqj : (0 : Int) ≤ (nq : Int) := by omega
  obtain ⟨b0_, b1_, b2_, b3_⟩ := allRectD RV.out
  have zv := RV.out.lt
  go_wp2_with fail
  refine (SeenBoxes_ans B1 m1 d1 zs W H v0 v1 v2 v3 (by omega) _ I1.out).mono ?_
  rintro e w3 ⟨A3, n3, c3, rfl, l3, r3, N3a⟩
  have s3 := N3a.le
  have I1 := Lib.hid (I1.out.new N3a)
  have RV := Lib.hid (RV.out.new N3a)
  have N3 := Lib.hid (N1.out.trans N3a); clear N3a
  clear b0_ b1_ b2_ b3_ zv
  obtain rfl : nz = n3 := by have := LZ.out; omega
  have R3 := Lib.hid r3; clear l3 r3
  obtain ⟨b0_, b1_, b2_, b3_⟩ := allRectD RV.out
  have zv := RV.out.lt
  go_wp2_with fail
  refine (SSeenBoxes_ans B1 m1 d1 zs W H v0 v1 v2 v3 (by omega) _ I1.out).mono ?_
  rintro e w4 ⟨A4, n4, c4, rfl, l4, r4, N4a⟩
  have s4 := N4a.le
  have I1 := Lib.hid (I1.out.new N4a)
  have RV := Lib.hid (RV.out.new N4a)
  have R3 := Lib.hid (R3.out.new N4a)
  have N4 := Lib.hid (N3.out.trans N4a); clear N4a
  clear b0_ b1_ b2_ b3_ zv
  obtain rfl : nz = n4 := by have := LZ.out; omega
  have R4 := Lib.hid r4; clear l4 r4
  go_wp2_with fail
  refine (equalInts_any _ _ nz nz _ _ _ _ (by omega) (by omega) _ (R3.out.ints LZ.out) (R4.out.ints LZ.out)).mono ?_
  rw [decide_eq_true rfl]
  rintro e w5 ⟨rfl, N5a⟩
  have s5 := N5a.le
  have I1 := Lib.hid (I1.out.new N5a)
  have RV := Lib.hid (RV.out.new N5a)
  have R3 := Lib.hid (R3.out.new N5a)
  have R4 := Lib.hid (R4.out.new N5a)
  have N5 := Lib.hid (N4.out.trans N5a); clear N5a
  cases hv : layOk m1 zs W H
  · have h0 : nq = 0 := by rw [nqa, layA_no hv]; rfl
    subst h0
    clear hv nqa
    go_wp2_with fail
    refine (LayoutTree_ans B1 m1 d1 zs W H (by omega) _ I1.out).mono ?_
    rintro e w6 ⟨A6, n6, c6, rfl, l6, r6, N6a⟩
    have s6 := N6a.le
    have I1 := Lib.hid (I1.out.new N6a)
    have RV := Lib.hid (RV.out.new N6a)
    have R3 := Lib.hid (R3.out.new N6a)
    have R4 := Lib.hid (R4.out.new N6a)
    have N6 := Lib.hid (N5.out.trans N6a); clear N6a
    obtain rfl : 0 = n6 := by have := LQ.out; omega
    have R6 := Lib.hid r6; clear l6 r6
    go_wp2
    go_loopw [9] (fun i wr => i = .int .i64 0 ∧ wr = w6) (fun _ _ => 0)
    case atStart => exact ⟨rfl, rfl⟩
    case round =>
      obtain ⟨rfl, rfl⟩ := hrel
      go_wp2
      go_ret
      exact ⟨rfl, N6.out⟩
  · have hq : nq = m1 := by rw [nqa, layA_yes hv]; simp
    subst hq
    have SS := Lib.hid (fun i c0 c1 c2 c3 (hi : i < nq) (hq : layR zs nq W H i = (c0, c1, c2, c3)) (h2 : 0 < c2) (h3 : 0 < c3) => sb_self hv hi hq h2 h3)
    have LA := Lib.hid (fun i hi => lay_at hv (i := i) hi)
    have V4 := Lib.hid (fun k => flat4_at (layA nq zs W H) k)
    clear hv nqa
    go_wp2_with fail
    refine (LayoutTree_ans B1 nq d1 zs W H (by omega) _ I1.out).mono ?_
    rintro e w6 ⟨A6, n6, c6, rfl, l6, r6, N6a⟩
    have s6 := N6a.le
    have I1 := Lib.hid (I1.out.new N6a)
    have RV := Lib.hid (RV.out.new N6a)
    have R3 := Lib.hid (R3.out.new N6a)
    have R4 := Lib.hid (R4.out.new N6a)
    have N6 := Lib.hid (N5.out.trans N6a); clear N6a
    obtain rfl : nq = n6 := by have := LQ.out; omega
    have R6 := Lib.hid r6; clear l6 r6
    have NN := Lib.hid N6.out
    go_wp2
    go_loopw [9] (fun i wr => ∃ j : Nat, j ≤ nq ∧ i = .int .i64 j ∧ Hid (New w6 wr)) (fun i _ => nq - (intOf i).toNat)
    case atStart => exact ⟨0, Nat.zero_le _, rfl, Lib.hid (New.refl _)⟩
    case round =>
      obtain ⟨j, hj, rfl, HQ⟩ := hrel
      have j0 : (0 : Int) ≤ (j : Int) := by omega
      by_cases hlt : j < nq
      · have ji : (j : Int) < (nq : Int) := by omega
        obtain ⟨b, off, rfl, hb, hc⟩ := (Sts.of_res (m := 3) R6.out LQ.out).at_ (by omega)
        obtain ⟨v0_, v1_, v2_, v3_⟩ := V4.out j
        rw [LA.out j hlt] at v0_ v1_ v2_ v3_
        have GC := Lib.hid (fun V (hV : New w6 V) => (show V.cell? ⟨b, off + j * 4, none⟩ = some (.int .i64 (layR zs nq W H j).1) ∧ V.cell? ⟨b, off + j * 4 + 1, none⟩ = some (.int .i64 (layR zs nq W H j).2.1) ∧ V.cell? ⟨b, off + j * 4 + 2, none⟩ = some (.int .i64 (layR zs nq W H j).2.2.1) ∧ V.cell? ⟨b, off + j * 4 + 3, none⟩ = some (.int .i64 (layR zs nq W H j).2.2.2) from
          ⟨(hV.cells b _ hb).trans ((hc (j * 4) (by omega)).trans (by rw [v0_])), (hV.cells b _ hb).trans ((hc (j * 4 + 1) (by omega)).trans (by rw [v1_])), (hV.cells b _ hb).trans ((hc (j * 4 + 2) (by omega)).trans (by rw [v2_])), (hV.cells b _ hb).trans ((hc (j * 4 + 3) (by omega)).trans (by rw [v3_]))⟩))
        clear v0_ v1_ v2_ v3_ hc
        have ss := Lib.hid (fun c0 c1 c2 c3 => SS.out j c0 c1 c2 c3 hlt)
        obtain ⟨⟨c0, c1, c2, c3⟩, hq4⟩ : ∃ q4, layR zs nq W H j = q4 := ⟨_, rfl⟩
        rw [hq4] at GC
        have HQ4 := Lib.hid hq4
        clear hq4
        obtain ⟨y0_, y1_, y2_, y3_⟩ := GC.out wr HQ.out
        dsimp only at y0_ y1_ y2_ y3_
        have zb : b < wr.heap.size := Nat.lt_of_lt_of_le hb HQ.out.le
        by_cases h2 : 0 < c2
        · by_cases h3 : 0 < c3
          · have SI := Lib.hid (ss.out c0 c1 c2 c3 HQ4.out h2 h3)
            have SA := Lib.hid (SeenBoxes_ans B1 nq d1 zs W H c0 c1 c2 c3 (by omega) _ (I1.out.new HQ.out))
            have SL := Lib.hid (sbA_len (n := nq) (zs := zs) (W := W) (H := H) (v0 := c0) (v1 := c1) (v2 := c2) (v3 := c3))
            go_wp2_with (first
              | (go_at_call 20; refine SA.out.mono ?_; rintro e wc ⟨Ac, nc, cc, rfl, lc, rc_, Nc⟩; (have LC := Lib.hid lc); (have RC := Lib.hid rc_); clear lc rc_)
              | (go_at_call 15; refine (isInL_any _ nc _ j _ (by have := LC.out; have := SL.out; omega) _ (RC.out.ints LC.out)).mono ?_; rw [SI.out]; rintro e wd ⟨rfl, rfl⟩))
            go_roundw
            case rel => exact ⟨j + 1, by omega, by go_num, Lib.hid (HQ.out.trans Nc)⟩
            case measure => simp [intOf]; omega
          · have d3 : decide (0 < c3) = false := decide_eq_false h3
            go_wp2
            go_roundw
            case rel => exact ⟨j + 1, by omega, by go_num, HQ⟩
            case measure => simp [intOf]; omega
        · have d2 : decide (0 < c2) = false := decide_eq_false h2
          go_wp2
          go_roundw
          case rel => exact ⟨j + 1, by omega, by go_num, HQ⟩
          case measure => simp [intOf]; omega
      · go_wp2
        go_ret
        exact ⟨rfl, NN.out.trans HQ.out⟩
end Go.Proofs.YtokcbfnmnccacaaGreat
