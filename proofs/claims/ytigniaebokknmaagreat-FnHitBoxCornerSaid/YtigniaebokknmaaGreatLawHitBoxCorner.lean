/- The law FnHitBoxCorner, walked: the corner of a box with points that does not spill, and that no box around it spills, hits a box in it. Condition: the code can be read. -/
import Derived.Test.YtigniaebokknmaaGreatYB
import Derived.Test.YtigniaebokknmaaGreatSpilI
import Derived.Test.YtigniaebokknmaaGreatHitI
import Derived.Test.YtigniaebokknmaaGreatHitQ
import Derived.Test.YtigniaebokknmaaGreatZF
import Derived.Test.YtigniaebokknmaaGreatYD
import Derived.Test.YtigniaebokknmaaGreatZW
import Derived.Deep.RegionHeld3
import Derived.Deep.QuietTactic
import Derived.BigQuiet
namespace Go.Proofs.YtigniaebokknmaaGreat
open Go.RowKit

set_option maxHeartbeats 4000000 in
theorem lawHitBoxCorner (A : Option Addr) (n c : Nat) (hn : n ≤ maxLen) (hnc : n ≤ c) (w : World) (hb : Bytes w A n) :
    Calls Tryz.prog 4 #[.slice A n c] w fun e w' => e = .returned (.bool true) ∧ New w w' := by
  have HB := Lib.hid hb; have HM := Lib.hid hn
  clear hb
  unfold maxLen at hn
  by_cases hbig : 1048576 < n
  · go_enter Tryz.func4, Tryz.ntmps4
    go_wp2
    go_ret
    exact ⟨rfl, by (repeat (first | exact New.refl _ | assumption | refine New.alloc ?_ _ | refine New.drew ?_ | refine New.drewN ?_ _ | refine New.setCell ?_ (by first | omega | (simp; omega) | (simp; done)) _ | refine New.trans ?_ (by assumption)))⟩
  have hm : (n : Int) ≤ 1048576 := by omega
  have hm0 : (0 : Int) ≤ (n : Int) := by omega
  go_enter Tryz.func4, Tryz.ntmps4
  go_wp2_with fail
  refine (DrawSpilling_any A n c HM.out hnc _ HB.out).mono ?_
  rintro e w1 ⟨B1, m1, d1, zs, W, H, rfl, I1, l1, kd, Wb, Hb, N1a⟩
  have s1 := N1a.le
  have N1 := Lib.hid ((New.refl w).trans N1a); clear N1a
  replace I1 := Lib.hid I1
  obtain ⟨nz, LZ⟩ : ∃ nz, Hid ((spA m1 zs W H).length = nz) := ⟨_, Lib.hid rfl⟩
  have nz16 : nz ≤ 16 := by have := LZ.out; have := spA_len (n := m1) (zs := zs) (W := W) (H := H); omega
  obtain ⟨nq, LQ⟩ : ∃ nq, Hid ((flat4 (layA m1 zs W H)).length = nq * 4) := ⟨(layA m1 zs W H).length, Lib.hid (flat4_len _)⟩
  have nqa : nq = (layA m1 zs W H).length := by have h1 := LQ.out; rw [flat4_len] at h1; omega
  have nq16 : nq ≤ 16 := by rw [nqa]; exact layA_len
  have nqi : (nq : Int) ≤ 16 := by omega
  have nqj : (0 : Int) ≤ (nq : Int) := by omega
  have NQA := Lib.hid nqa
  clear nqa
  go_wp2_with fail
  refine (Spilling_ans B1 m1 d1 zs W H (by omega) _ I1.out).mono ?_
  rintro e w2 ⟨A2, n2, c2, rfl, l2, r2, N2a⟩
  have s2 := N2a.le
  have I1 := Lib.hid (I1.out.new N2a)
  have N2 := Lib.hid (N1.out.trans N2a); clear N2a
  obtain rfl : nz = n2 := by have := LZ.out; omega
  have R2 := Lib.hid r2; clear l2 r2
  go_wp2_with fail
  refine (LayoutTree_ans B1 m1 d1 zs W H (by omega) _ I1.out).mono ?_
  rintro e w3 ⟨A3, n3, c3, rfl, l3, r3, N3a⟩
  have s3 := N3a.le
  have I1 := Lib.hid (I1.out.new N3a)
  have R2 := Lib.hid (R2.out.new N3a)
  have N3 := Lib.hid (N2.out.trans N3a); clear N3a
  obtain rfl : nq = n3 := by have := LQ.out; omega
  have R3 := Lib.hid r3; clear l3 r3
  go_wp2_with fail
  refine (SSpilling_ans B1 m1 d1 zs W H (by omega) _ I1.out).mono ?_
  rintro e w4 ⟨A4, n4, c4, rfl, l4, r4, N4a⟩
  have s4 := N4a.le
  have I1 := Lib.hid (I1.out.new N4a)
  have R2 := Lib.hid (R2.out.new N4a)
  have R3 := Lib.hid (R3.out.new N4a)
  have N4 := Lib.hid (N3.out.trans N4a); clear N4a
  obtain rfl : nz = n4 := by have := LZ.out; omega
  have R4 := Lib.hid r4; clear l4 r4
  go_wp2_with fail
  refine (equalInts_any _ _ nz nz _ _ _ _ (by omega) (by omega) _ (R2.out.ints LZ.out) (R4.out.ints LZ.out)).mono ?_
  rw [decide_eq_true rfl]
  rintro e w5 ⟨rfl, N5a⟩
  have s5 := N5a.le
  have I1 := Lib.hid (I1.out.new N5a)
  have R2 := Lib.hid (R2.out.new N5a)
  have R3 := Lib.hid (R3.out.new N5a)
  have R4 := Lib.hid (R4.out.new N5a)
  have N5 := Lib.hid (N4.out.trans N5a); clear N5a
  cases hv : layOk m1 zs W H
  · have h0 : nq = 0 := by rw [NQA.out, layA_no hv]; rfl
    subst h0
    clear hv
    go_wp2_with fail
    refine (SSpilling_ans B1 m1 d1 zs W H (by omega) _ I1.out).mono ?_
    rintro e w6 ⟨A6, n6, c6, rfl, l6, r6, N6a⟩
    have s6 := N6a.le
    have I1 := Lib.hid (I1.out.new N6a)
    have R2 := Lib.hid (R2.out.new N6a)
    have R3 := Lib.hid (R3.out.new N6a)
    have R4 := Lib.hid (R4.out.new N6a)
    have N6 := Lib.hid (N5.out.trans N6a); clear N6a
    obtain rfl : nz = n6 := by have := LZ.out; omega
    have R6 := Lib.hid r6; clear l6 r6
    go_wp2_with fail
    refine (equalInts_any _ _ nz nz _ _ _ _ (by omega) (by omega) _ (R2.out.ints LZ.out) (R6.out.ints LZ.out)).mono ?_
    rw [decide_eq_true rfl]
    rintro e w7 ⟨rfl, N7a⟩
    have s7 := N7a.le
    have I1 := Lib.hid (I1.out.new N7a)
    have R2 := Lib.hid (R2.out.new N7a)
    have R3 := Lib.hid (R3.out.new N7a)
    have R4 := Lib.hid (R4.out.new N7a)
    have R6 := Lib.hid (R6.out.new N7a)
    have N7 := Lib.hid (N6.out.trans N7a); clear N7a
    go_wp2
    go_ret
    exact ⟨rfl, N7.out⟩
  · have hq : nq = m1 := by rw [NQA.out, layA_yes hv]; simp
    subst hq
    obtain ⟨hvt, hx0, hy0⟩ := layOk_iff.1 hv
    have v1 := (vtB_iff.1 hvt).1
    have nz0 : ((nq : Int) == 0) = false := by simp; omega
    have CO := Lib.hid (fun i (hi : i < nq) => corner (i := i) hv hi)
    have VB := Lib.hid (fun i (hi : i < nq) => lay_vR hvt hx0 hy0 hi)
    have LA := Lib.hid (fun i hi => lay_at hv (i := i) hi)
    have V4 := Lib.hid (fun k => flat4_at (layA nq zs W H) k)
    have PA := Lib.hid (fun i (hi : i < nq) => (⟨pathA_at hvt hi, dep_le5 hvt hi⟩ : _ ∧ _))
    have AR := Lib.hid (fun i k (hi : i < nq) (hk : k < nq) => arA_at hvt hi hk)
    clear hv hvt hx0 hy0
    have NN := Lib.hid N5.out
    obtain ⟨cg, rfl⟩ : ∃ x, x = c2 := ⟨c2, rfl⟩
    go_wp2
    go_loopw [8] (fun i wr => ∃ j : Nat, j ≤ nq ∧ i = .int .i64 j ∧ Hid (New w5 wr)) (fun i _ => nq - (intOf i).toNat)
    case atStart => exact ⟨0, Nat.zero_le _, rfl, Lib.hid (New.refl _)⟩
    case round =>
      obtain ⟨wo, rfl⟩ : ∃ x, x = wr := ⟨wr, rfl⟩
      obtain ⟨j, hj, rfl, HQ⟩ := hrel
      have j0 : (0 : Int) ≤ (j : Int) := by omega
      by_cases hlt : j < nq
      · have ji : (j : Int) < (nq : Int) := by omega
        obtain ⟨b, off, rfl, hb, hc⟩ := (Sts.of_res (m := 3) R3.out LQ.out).at_ (by omega)
        obtain ⟨v0_, v1_, v2_, v3_⟩ := V4.out j
        rw [LA.out j hlt] at v0_ v1_ v2_ v3_
        have GC := Lib.hid (fun V (hV : New w5 V) => (show V.cell? ⟨b, off + j * 4, none⟩ = some (.int .i64 (layR zs nq W H j).1) ∧ V.cell? ⟨b, off + j * 4 + 1, none⟩ = some (.int .i64 (layR zs nq W H j).2.1) ∧ V.cell? ⟨b, off + j * 4 + 2, none⟩ = some (.int .i64 (layR zs nq W H j).2.2.1) ∧ V.cell? ⟨b, off + j * 4 + 3, none⟩ = some (.int .i64 (layR zs nq W H j).2.2.2) from
          ⟨(hV.cells b _ hb).trans ((hc (j * 4) (by omega)).trans (by rw [v0_])), (hV.cells b _ hb).trans ((hc (j * 4 + 1) (by omega)).trans (by rw [v1_])), (hV.cells b _ hb).trans ((hc (j * 4 + 2) (by omega)).trans (by rw [v2_])), (hV.cells b _ hb).trans ((hc (j * 4 + 3) (by omega)).trans (by rw [v3_]))⟩))
        clear v0_ v1_ v2_ v3_ hc
        have co := Lib.hid (CO.out j hlt)
        have vb := VB.out j hlt
        have ar := Lib.hid (fun k => AR.out j k hlt)
        obtain ⟨PE0, d5⟩ := PA.out j hlt
        have PE := Lib.hid PE0
        obtain ⟨np, hnp⟩ : ∃ np, (pathL zs j).length = np := ⟨_, rfl⟩
        have np6 : np ≤ 6 := by rw [path_len] at hnp; omega
        have LP : Hid ((pathA nq zs (j : Int)).length = np) := Lib.hid (by rw [PE.out, List.length_map]; exact hnp)
        have HNP := Lib.hid hnp
        have npi : (0 : Int) ≤ (np : Int) := by omega
        clear PE0 d5 hnp
        obtain ⟨⟨c0, c1, c2, c3⟩, hq4⟩ : ∃ q4, layR zs nq W H j = q4 := ⟨_, rfl⟩
        rw [hq4] at GC co vb
        have vb := vR_iff.1 vb
        dsimp only at co
        clear hq4
        go_wp2_with fail
        refine (PathTo_ans B1 nq d1 zs (j : Int) (by omega) _ (I1.out.new HQ.out)).mono ?_
        rintro e wp ⟨Ap, np', cp, rfl, lp, rp, Np⟩
        obtain rfl : np = np' := by have := LP.out; omega
        have RP := Lib.hid rp
        have HP := Lib.hid (HQ.out.trans Np)
        clear lp rp Np
        obtain ⟨g0, g1, g2, g3⟩ := GC.out wp HP.out
        try dsimp only at g0 g1 g2 g3
        obtain ⟨b2, h2⟩ : ∃ b2, (c2 == 0) = b2 := ⟨_, rfl⟩
        obtain ⟨b3, h3⟩ : ∃ b3, (c3 == 0) = b3 := ⟨_, rfl⟩
        have PO : Hid (b2 = false → b3 = false → 0 < c2 ∧ 0 < c3) := Lib.hid (fun e2 e3 => by
          rw [e2] at h2; rw [e3] at h3
          have a : c2 ≠ 0 := by simpa using h2
          have b : c3 ≠ 0 := by simpa using h3
          omega)
        cases b2
        all_goals
          go_wp2
          go_loopw [10, 11] (fun bv kv wr => ∃ t : Nat, t ≤ np ∧ kv = .int .i64 t ∧ ∃ vb : Bool, bv = .bool vb ∧ Hid (vb = false → (0 < c2 ∧ 0 < c3) ∧ ∀ u, u < t → inL (spA nq zs W H) ((pathL zs j).getD u 0) = false) ∧ wr = wp) (fun _ kv _ => np - (intOf kv).toNat)
          case atStart => (first | exact ⟨0, Nat.zero_le _, rfl, b3, rfl, Lib.hid (fun h => ⟨PO.out (by first | rfl | trivial) h, fun u hu => absurd hu (Nat.not_lt_zero _)⟩), by first | rfl | trivial⟩ | exact ⟨0, Nat.zero_le _, rfl, true, rfl, Lib.hid (fun h => by cases h), by first | rfl | trivial⟩)
          case round =>
            obtain ⟨t, ht, rfl, vc, rfl, HF, rfl⟩ := hrel
            have t0 : (0 : Int) ≤ (t : Int) := by omega
            by_cases htl : t < np
            · have t1 : (t : Int) < (np : Int) := by omega
              cases vc
              · obtain ⟨bp, offp, rfl, hbp, hcp⟩ := (RP.out.ints LP.out).at_ (by omega)
                have gp := hcp t htl
                rw [PE.out, getD_map] at gp
                have HF2 : Hid (inL (spA nq zs W H) ((pathL zs j).getD t 0) = false → (0 < c2 ∧ 0 < c3) ∧ ∀ u, u < t + 1 → inL (spA nq zs W H) ((pathL zs j).getD u 0) = false) := Lib.hid (fun h => ⟨(HF.out rfl).1, fun u hu => by
                  rcases Nat.lt_or_ge u t with h1 | h1
                  · exact (HF.out rfl).2 u h1
                  · obtain rfl : u = t := by omega
                    exact h⟩)
                generalize (pathL zs j).getD t 0 = q at gp HF2
                have IS := Lib.hid (isInL_any _ nz cg q _ (by omega) _ ((R2.out.new HP.out).ints LZ.out))
                generalize inL (spA nq zs W H) q = bq at IS HF2
                clear hcp
                go_wp2_with (go_at_call 8; refine IS.out.mono ?_; rintro e wd ⟨rfl, rfl⟩)
                go_roundw
                case rel => exact ⟨t + 1, by omega, by go_num, bq, rfl, HF2, trivial⟩
                case measure => simp [intOf]; omega
              · go_wp2
                go_roundw
                case rel => exact ⟨t + 1, by omega, by go_num, true, rfl, Lib.hid (fun h => by cases h), trivial⟩
                case measure => simp [intOf]; omega
            · obtain rfl : np = t := by omega
              clear g0 g1 g2 g3
              cases vc
              · obtain ⟨⟨p2, p3⟩, hall⟩ := HF.out rfl
                obtain ⟨q, hq, hqn, hqa⟩ := co.out p2 p3 (fun b hb => by
                  obtain ⟨hd, he⟩ := path_find hb
                  have := hall (dep zs b) (by rw [HNP.out] at hd; exact hd)
                  rw [he] at this
                  exact this)
                have AQ := ar.out q hqn
                rw [hqa] at AQ
                have HIT := Lib.hid (fun V (hV : New w5 V) => (show Calls Tryz.prog 6 #[.slice B1 nq d1, .int .i64 W, .int .i64 H, .int .i64 c0, .int .i64 c1] V fun e V' => e = .returned (.int .i64 (q : Int)) ∧ New V V' by
                  have h := HitBox_any B1 nq d1 zs W H c0 c1 (by omega) V (I1.out.new hV)
                  rw [hq] at h
                  exact h))
                have ARD := Lib.hid (fun V (hV : New w5 V) => (show Calls Tryz.prog 16 #[.slice B1 nq d1, .int .i64 (j : Int), .int .i64 (q : Int)] V fun e V' => e = .returned (.bool true) ∧ New V V' by
                  have h := IsAround_any B1 nq d1 zs (j : Int) (q : Int) (by omega) V (I1.out.new hV)
                  rw [AQ] at h
                  exact h))
                have KX := Lib.hid (fun V (hV : New w5 V) => (show V.cell? ⟨b, off + j * 4, none⟩ = some (.int .i64 c0) ∧ V.cell? ⟨b, off + j * 4 + 1, none⟩ = some (.int .i64 c1) from ⟨(GC.out V hV).1, (GC.out V hV).2.1⟩))
                have ND := Lib.hid HP.out.drew
                have K0 := KX.out _ ND.out
                clear hall hq hqa AQ vb p2 p3 ht htl t0 np6 npi h2 h3 PO HF
                set_option maxRecDepth 20000 in go_wp2
                go_region_held3 (fun w' => w'.cell? ⟨b, off + j * 4, none⟩ = some (.int .i64 c0) ∧ w'.cell? ⟨b, off + j * 4 + 1, none⟩ = some (.int .i64 c1))
                  (first | exact K0 | assumption)
                  (first
                    | (go_at_call 6; refine (HIT.out _ ND.out).mono ?_; rintro e wk ⟨rfl, Nk⟩; (replace ND := Lib.hid (ND.out.trans Nk)); (have K0 := KX.out _ ND.out); clear Nk)
                    | (go_at_call 16; refine (ARD.out _ ND.out).mono ?_; rintro e wm ⟨rfl, Nk⟩; (replace ND := Lib.hid (ND.out.trans Nk)); (have K0 := KX.out _ ND.out); clear Nk))
                set_option maxRecDepth 20000 in go_wp2
                go_roundw
                case rel => exact ⟨j + 1, by omega, by go_num, ND⟩
                case measure => simp [intOf]; omega
              · go_wp2
                go_quiet (fail)
                have NQ := Lib.hid (HP.out.drewN nq)
                generalize wr.drewN nq = W5 at NQ ⊢
                set_option maxRecDepth 20000 in go_wp2
                go_roundw
                case rel => exact ⟨j + 1, hlt, by go_num, NQ⟩
                case measure => simp [intOf]; omega
      · go_wp2
        go_ret
        exact ⟨rfl, NN.out.trans HQ.out⟩
end Go.Proofs.YtigniaebokknmaaGreat
