/- The law FnFinishFramesSlices, walked: halved budgets do the same in twice as many frames. Condition: the code can be read. -/
import Derived.Test.YtkaagpfgpacfcaaDrawFr
import Derived.Test.YtkaagpfgpacfcaaFrameT
import Derived.Test.YtkaagpfgpacfcaaAppG
import Derived.Deep.RegionHeld3
namespace Go.Proofs.Ytkaagpfgpacfcaa
open Go.RowKit

set_option maxRecDepth 100000 in
set_option maxHeartbeats 4000000 in
theorem lawFinishFramesSlices (A : Option Addr) (n c : Nat) (hn : n ≤ maxLen) (hnc : n ≤ c) (w : World) (hb : Bytes w A n) :
    Calls Try.prog 3 #[.slice A n c] w fun e w' => e = .returned (.bool true) ∧ New w w' := by
  have HB := Lib.hid hb; have HM := Lib.hid hn
  clear hb
  unfold maxLen at hn
  by_cases hbig : 1048576 < n
  · go_enter Try.func3, Try.ntmps3
    go_wp2
    go_ret
    exact ⟨rfl, by (repeat (first | exact New.refl _ | assumption | refine New.alloc ?_ _ | refine New.drew ?_ | refine New.drewN ?_ _ | refine New.setCell ?_ (by first | omega | (simp; omega) | (simp; done)) _ | refine New.trans ?_ (by assumption)))⟩
  have hm : (n : Int) ≤ 1048576 := by omega
  have hm0 : (0 : Int) ≤ (n : Int) := by omega
  go_enter Try.func3, Try.ntmps3
  go_wp2_with fail
  refine (DrawFinishFrames_any A n c HM.out hnc _ HB.out).mono ?_
  rintro e w1 ⟨B1, m1, d1, ys, B2, m2, d2, zs, rfl, I1, I2, l1, l2, S1, S2, _, _, N1a⟩
  have s1 := N1a.le
  have N1 := Lib.hid ((New.refl w).trans N1a); clear N1a
  replace I1 := Lib.hid I1
  replace I2 := Lib.hid I2
  have LY := Lib.hid I1.out.len; have LZ2 := Lib.hid I2.out.len
  replace S1 := Lib.hid S1; replace S2 := Lib.hid S2
  obtain ⟨nz, hnz⟩ : ∃ nz, (doneA ys zs).length = nz := ⟨_, rfl⟩
  have nz12 : nz ≤ 12 := by rw [← hnz]; exact doneA_len
  have LZ := Lib.hid hnz
  have nzi : (nz : Int) ≤ 12 := by omega
  have m1i : (m1 : Int) ≤ 14 := by omega
  have m2i : (m2 : Int) ≤ 14 := by omega
  have m20 : (0 : Int) ≤ (m2 : Int) := by omega
  go_wp2_with fail
  refine (FinishFrames_ans ys zs B1 m1 d1 B2 m2 d2 _ I1.out I2.out (by omega) (by omega)).mono ?_
  rintro e w2 ⟨A2, n2, c2, rfl, l2, r2, N2a⟩
  have s2 := N2a.le
  have I1 := Lib.hid (I1.out.new N2a)
  have I2 := Lib.hid (I2.out.new N2a)
  have N2 := Lib.hid (N1.out.trans N2a); clear N2a
  obtain rfl : nz = n2 := by have := LZ.out; omega
  have R2 := Lib.hid r2; clear l2 r2
  go_wp2_with fail
  refine (SFinishFrames_ans ys zs B1 m1 d1 B2 m2 d2 _ I1.out I2.out (by omega) (by omega)).mono ?_
  rintro e w3 ⟨A3, n3, c3, rfl, l3, r3, N3a⟩
  have s3 := N3a.le
  have I1 := Lib.hid (I1.out.new N3a)
  have I2 := Lib.hid (I2.out.new N3a)
  have R2 := Lib.hid (R2.out.new N3a)
  have N3 := Lib.hid (N2.out.trans N3a); clear N3a
  obtain rfl : nz = n3 := by have := LZ.out; omega
  have R3 := Lib.hid r3; clear l3 r3
  go_wp2_with fail
  refine (equalInts_any _ _ nz nz _ _ _ _ (by omega) (by omega) _ (R2.out.ints LZ.out) (R3.out.ints LZ.out)).mono ?_
  rw [decide_eq_true rfl]
  rintro e w4 ⟨rfl, N4a⟩
  have s4 := N4a.le
  have I1 := Lib.hid (I1.out.new N4a)
  have I2 := Lib.hid (I2.out.new N4a)
  have R2 := Lib.hid (R2.out.new N4a)
  have R3 := Lib.hid (R3.out.new N4a)
  have N4 := Lib.hid (N3.out.trans N4a); clear N4a
  by_cases hl : nz = m1
  · subst hl
    have wm : IntKind.i64.wrap (2 * (m2 : Int)) = 2 * (m2 : Int) := IntWalk.i64_in _ (by omega)
    by_cases h6 : 12 < 2 * m2
    · have h7 : (12 : Int) < 2 * (m2 : Int) := by omega
      clear hnz
      go_wp2_with fail
      refine (SFinishFrames_ans ys zs B1 nz d1 B2 m2 d2 _ I1.out I2.out (by omega) (by omega)).mono ?_
      rintro e w5 ⟨A5, n5, c5, rfl, l5, r5, N5a⟩
      have s5 := N5a.le
      have I1 := Lib.hid (I1.out.new N5a)
      have I2 := Lib.hid (I2.out.new N5a)
      have R2 := Lib.hid (R2.out.new N5a)
      have R3 := Lib.hid (R3.out.new N5a)
      have N5 := Lib.hid (N4.out.trans N5a); clear N5a
      obtain rfl : nz = n5 := by have := LZ.out; omega
      have R5 := Lib.hid r5; clear l5 r5
      go_wp2_with fail
      refine (equalInts_any _ _ nz nz _ _ _ _ (by omega) (by omega) _ (R2.out.ints LZ.out) (R5.out.ints LZ.out)).mono ?_
      rw [decide_eq_true rfl]
      rintro e w6 ⟨rfl, N6a⟩
      have s6 := N6a.le
      have I1 := Lib.hid (I1.out.new N6a)
      have I2 := Lib.hid (I2.out.new N6a)
      have R2 := Lib.hid (R2.out.new N6a)
      have R3 := Lib.hid (R3.out.new N6a)
      have R5 := Lib.hid (R5.out.new N6a)
      have N6 := Lib.hid (N5.out.trans N6a); clear N6a
      go_wp2
      go_ret
      exact ⟨rfl, N6.out⟩
    · have h7 : decide ((12 : Int) < 2 * (m2 : Int)) = false := decide_eq_false (by omega)
      have m6 : m2 ≤ 6 := by omega
      have m6i : (m2 : Int) ≤ 6 := by omega
      have HLL : Hid ((doneA ys (hL zs)).length = nz) := Lib.hid (by
        unfold doneA at hnz ⊢
        by_cases hk : jobsB ys zs = true
        · obtain ⟨jy, jz⟩ := jobsB_iff.1 hk
          rw [if_pos (jobsB_iff.2 ⟨jy, hL_jobs jz (by rw [LZ2.out]; omega)⟩), doneL_len, LY.out]
        · rw [if_neg hk] at hnz
          have h0 : nz = 0 := by simpa using hnz.symm
          split
          · rw [doneL_len, LY.out]
          · simp [h0])
      have FA : Hid (∀ i, i < nz → -1 ≤ (doneA ys zs).getD i 0 ∧ (doneA ys zs).getD i 0 ≤ 12 ∧ -1 ≤ (doneA ys (hL zs)).getD i 0 ∧ (doneA ys (hL zs)).getD i 0 ≤ 12 ∧ ((doneA ys (hL zs)).getD i 0 < 0 → (doneA ys zs).getD i 0 < 0) ∧ (0 ≤ (doneA ys (hL zs)).getD i 0 → ((doneA ys (hL zs)).getD i 0).tdiv 2 = (doneA ys zs).getD i 0)) := Lib.hid (fun i hi => by
        have hk : jobsB ys zs = true := by
          by_cases hk : jobsB ys zs = true
          · exact hk
          · unfold doneA at hnz; rw [if_neg hk] at hnz; simp at hnz; omega
        obtain ⟨jy, jz⟩ := jobsB_iff.1 hk
        have jh := hL_jobs jz (by rw [LZ2.out]; omega)
        have hy : i < ys.length := by rw [LY.out]; omega
        have e1 : doneA ys zs = doneL ys zs := by unfold doneA; rw [if_pos hk]
        have e2 : doneA ys (hL zs) = doneL ys (hL zs) := by unfold doneA; rw [if_pos (jobsB_iff.2 ⟨jy, jh⟩)]
        have b1 := done_bd (cs := ys) jz i
        have b2 := done_bd (cs := ys) jh i
        rw [e1, e2]
        refine ⟨b1.1, b1.2, b2.1, b2.2, ?_⟩
        rw [doneL_at hy, doneL_at hy, hL_len]
        exact hL_frame jz (by rw [LZ2.out]; omega) _ (Nat.le_refl _))
      have NN := Lib.hid N4.out
      clear hnz
      go_wp2
      go_loopw [6, 7] (fun v i wr => ∃ k : Nat, k ≤ m2 ∧ i = .int .i64 (k : Int) ∧ Hid (Own w4.heap.size wr v (hL (zs.take k))) ∧ Hid (New w4 wr)) (fun _ i _ => m2 - (intOf i).toNat)
      case atStart => exact ⟨0, Nat.zero_le _, rfl, Lib.hid (Own.empty w4 0 (Nat.le_refl _) rfl), Lib.hid (by (repeat (first | exact New.refl _ | assumption | refine New.alloc ?_ _ | refine New.drew ?_ | refine New.drewN ?_ _ | refine New.setCell ?_ (by first | omega | (simp; omega) | (simp; done)) _ | refine New.trans ?_ (by assumption))))⟩
      case round =>
        obtain ⟨k, hk, rfl, HO, HN⟩ := hrel
        have k0 : (0 : Int) ≤ (k : Int) := by omega
        have sz := HN.out.le
        by_cases hlt : k < m2
        · have k1 : (k : Int) < (m2 : Int) := by omega
          obtain ⟨b, off, rfl, hbW, hcW⟩ := I2.out.at_ (by omega)
          have HBW := Lib.hid hbW
          have HB0 := Lib.hid (Nat.lt_of_lt_of_le hbW HN.out.le)
          have gW := hcW k hlt
          have g1 := (HN.out.cells b _ hbW).trans gW
          clear hcW hbW
          have SN := Lib.hid (hL_snoc (bs := zs) (show k < zs.length by rw [LZ2.out]; exact hlt))
          have LL : Hid ((hL (zs.take k)).length ≤ 12) := Lib.hid (by rw [hL_len, List.length_take]; omega)
          have sb := S2.out _ (getD_inF (show k < zs.length by rw [LZ2.out]; exact hlt))
          have td := tdiv2 (zs.getD k 0)
          generalize zs.getD k 0 = z at *
          obtain ⟨x, hx⟩ : ∃ x, z.tdiv 2 = x := ⟨_, rfl⟩
          obtain ⟨y, hy⟩ : ∃ y, z - x = y := ⟨_, rfl⟩
          have wx : IntKind.i64.wrap (z.tdiv 2) = x := by rw [hx]; exact IntWalk.i64_in _ (by omega)
          have wy : IntKind.i64.wrap (z - x) = y := by rw [hy]; exact IntWalk.i64_in _ (by omega)
          have w5x : IntKind.i64.wrap x = x := IntWalk.i64_in _ (by omega)
          have w5y : IntKind.i64.wrap (z - x) = y := by rw [hy]; exact IntWalk.i64_in _ (by omega)
          have w5z : IntKind.i64.wrap y = y := IntWalk.i64_in _ (by omega)
          have w6x : wrap64 x = x := w64_in _ (IntWalk.i64_in _ (by omega))
          have w6y : wrap64 (z - x) = y := by rw [hy]; exact w64_in _ (IntWalk.i64_in _ (by omega))
          have w6z : wrap64 y = y := w64_in _ (IntWalk.i64_in _ (by omega))
          rw [hx, hy] at SN
          have HCZ := Lib.hid gW
          clear td gW
          have HN1 := Lib.hid HN.out.drew
          have HO1 := Lib.hid HO.out.drew
          have hbw : b < wr.drew.heap.size := Nat.lt_of_lt_of_le HB0.out (New.refl wr).drew.le
          have K1 : wr.drew.cell? ⟨b, off + k, none⟩ = some (.int .i64 z) := g1
          have KF := Lib.hid (fun (W : World) (h : New wr.drew W) => (h.cells _ _ hbw).trans K1)
          have K2 := KF.out (wr.drew.alloc (.cells #[.int .i64 x, .int .i64 y] 3)) ((New.refl _).alloc _)
          have G0 := Lib.hid (show b < w4.heap.size ∨ True from .inr trivial)
          clear g1 G0
          go_wp2
          go_region_held3 (fun w' => w'.cell? ⟨b, off + k, none⟩ = some (.int .i64 z))
            (first | exact K1 | exact K2 | exact K6 | assumption)
            (first
              | (refine step_appN rfl _ _ rfl w4.heap.size _ _ rfl (HO1.out.alloc _) (some ⟨wr.heap.size, 0, none⟩) 2 2 [x, y] rfl (ints2 wr.drew x y _) (by have := LL.out; omega) (by simp; omega) ?_; intro v26 w26 O26 G26; (have N26 := Lib.hid (new_own (HN1.out.alloc _) G26 (HO1.out.alloc _) (Nat.le_refl _))); (have K6 : w26.cell? ⟨b, off + k, none⟩ = some (.int .i64 z) := (N26.out.cells b _ HBW.out).trans HCZ.out); (replace O26 := Lib.hid O26); clear G26))
          go_wp2
          go_roundw
          case rel => exact ⟨k + 1, by omega, by go_num, Lib.hid (by rw [SN.out]; exact O26.out), N26⟩
          case measure => simp [intOf]; omega
        · obtain rfl : k = m2 := by omega
          have HO2 := HO.out
          rw [List.take_of_length_le (by rw [LZ2.out]; exact Nat.le_refl _)] at HO2
          obtain ⟨A26, c26, rfl, hc26, Z26⟩ := HO2.res
          have L26 : (hL zs).length = 2 * k := by rw [hL_len, LZ2.out]
          have Z27 := Lib.hid (Z26.ints L26)
          rw [L26] at hc26 ⊢
          have I3 := Lib.hid (I1.out.new HN.out)
          have NM := Lib.hid (NN.out.trans HN.out)
          have RG := Lib.hid (R2.out.new HN.out)
          clear HO2 Z26 L26
          go_wp2_with fail
          refine (FinishFrames_ans ys (hL zs) B1 nz d1 A26 (2 * k) c26 _ I3.out Z27.out (by omega) (by omega)).mono ?_
          rintro e w27 ⟨A27, n27, c27, rfl, l27, r27, N27⟩
          obtain rfl : nz = n27 := by have := HLL.out; omega
          have R27 := Lib.hid r27
          replace RG := Lib.hid (RG.out.new N27)
          replace NM := Lib.hid (NM.out.trans N27)
          clear l27 r27 N27
          go_wp2
          go_loopw [9] (fun i wr => ∃ j : Nat, j ≤ nz ∧ i = .int .i64 j ∧ ∃ q, wr = w27.drewN q) (fun i _ => nz - (intOf i).toNat)
          case atStart => exact ⟨0, Nat.zero_le _, rfl, 0, rfl⟩
          case round =>
            obtain ⟨j, hj, rfl, q, rfl⟩ := hrel
            have j0 : (0 : Int) ≤ (j : Int) := by omega
            by_cases hjn : j < nz
            · obtain ⟨b', off', rfl, hb', hc'⟩ := (RG.out.ints LZ.out).at_ (by omega)
              obtain ⟨b3, off3, rfl, hb3, hc3⟩ := (R27.out.ints HLL.out).at_ (by omega)
              have g1 : w27.cell? ⟨b', off' + j, none⟩ = some (.int .i64 ((doneA ys zs).getD j 0)) := hc' j hjn
              have g2 : w27.cell? ⟨b3, off3 + j, none⟩ = some (.int .i64 ((doneA ys (hL zs)).getD j 0)) := hc3 j hjn
              obtain ⟨e1, e2, e3, e4, e5, e6⟩ := FA.out j hjn
              have j1 : (j : Int) < (nz : Int) := by omega
              generalize (doneA ys zs).getD j 0 = u1 at *
              generalize (doneA ys (hL zs)).getD j 0 = u2 at *
              have jn : decide (nz ≤ j) = false := decide_eq_false (by omega)
              have jn2 : decide ((nz : Int) ≤ (j : Int)) = false := decide_eq_false (by omega)
              clear hc' hc3 hb' hb3
              by_cases hp : 0 ≤ u2
              · have h1 := e6 hp
                have h2 : decide (u2 < 0) = false := decide_eq_false (by omega)
                have wd : IntKind.i64.wrap (u2.tdiv 2) = u1 := by rw [h1]; exact IntWalk.i64_in _ (by omega)
                have nb : (u1 != u1) = false := by simp
                clear e5 e6
                go_wp2
                go_quiet (fail)
                go_wp2
                go_roundw
                case rel => exact ⟨j + 1, by omega, by go_num, _, rfl⟩
                case measure => simp [intOf]; omega
              · have h1 := e5 (by omega)
                have h2 : u2 < 0 := by omega
                have h3 : decide (0 ≤ u1) = false := decide_eq_false (by omega)
                have h4 : decide (0 ≤ u2) = false := decide_eq_false hp
                clear e5 e6
                go_wp2
                go_quiet (fail)
                go_wp2
                go_roundw
                case rel => exact ⟨j + 1, by omega, by go_num, _, rfl⟩
                case measure => simp [intOf]; omega
            · obtain rfl : nz = j := by omega
              go_wp2
              go_ret
              exact ⟨rfl, NM.out.drewN q⟩
  · have hb : ((nz : Int) != (m1 : Int)) = true := by simp; omega
    have hb2 : ((nz : Int) == (m1 : Int)) = false := by simp; omega
    have hb3 : (nz == m1) = false := by simp; omega
    have hb4 : (nz != m1) = true := by simp; omega
    clear hnz
    go_wp2_with fail
    refine (SFinishFrames_ans ys zs B1 m1 d1 B2 m2 d2 _ I1.out I2.out (by omega) (by omega)).mono ?_
    rintro e w5 ⟨A5, n5, c5, rfl, l5, r5, N5a⟩
    have s5 := N5a.le
    have I1 := Lib.hid (I1.out.new N5a)
    have I2 := Lib.hid (I2.out.new N5a)
    have R2 := Lib.hid (R2.out.new N5a)
    have R3 := Lib.hid (R3.out.new N5a)
    have N5 := Lib.hid (N4.out.trans N5a); clear N5a
    obtain rfl : nz = n5 := by have := LZ.out; omega
    have R5 := Lib.hid r5; clear l5 r5
    go_wp2_with fail
    refine (equalInts_any _ _ nz nz _ _ _ _ (by omega) (by omega) _ (R2.out.ints LZ.out) (R5.out.ints LZ.out)).mono ?_
    rw [decide_eq_true rfl]
    rintro e w6 ⟨rfl, N6a⟩
    have s6 := N6a.le
    have I1 := Lib.hid (I1.out.new N6a)
    have I2 := Lib.hid (I2.out.new N6a)
    have R2 := Lib.hid (R2.out.new N6a)
    have R3 := Lib.hid (R3.out.new N6a)
    have R5 := Lib.hid (R5.out.new N6a)
    have N6 := Lib.hid (N5.out.trans N6a); clear N6a
    go_wp2
    go_ret
    exact ⟨rfl, N6.out⟩
end Go.Proofs.Ytkaagpfgpacfcaa
