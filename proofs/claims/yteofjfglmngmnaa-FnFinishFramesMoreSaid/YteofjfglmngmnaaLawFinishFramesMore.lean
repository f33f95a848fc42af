/- The law FnFinishFramesMore, walked: a larger first budget makes no job later. Condition: the code can be read. -/
import Derived.Test.YteofjfglmngmnaaDrawFr
import Derived.Test.YteofjfglmngmnaaFrameY
import Derived.Test.YteofjfglmngmnaaFrameS
import Derived.Test.YteofjfglmngmnaaFrameT
namespace Go.Proofs.Yteofjfglmngmnaa
open Go.RowKit

set_option maxRecDepth 100000 in
set_option maxHeartbeats 4000000 in
theorem lawFinishFramesMore (A : Option Addr) (n c : Nat) (hn : n ≤ maxLen) (hnc : n ≤ c) (w : World) (hb : Bytes w A n) :
    Calls Try.prog 3 #[.slice A n c] w fun e w' => e = .returned (.bool true) ∧ New w w' := by
  have HB := Lib.hid hb; have HM := Lib.hid hn
  clear hb
  unfold maxLen at hn
  by_cases hbig : 1048576 < n
  · go_enter Try.func3, Try.ntmps3
    go_wp2
    go_ret
    exact ⟨rfl, by (repeat (first | exact New.refl _ | assumption | refine New.alloc ?_ _ | refine New.drew ?_ | refine New.drewN ?_ _ | refine New.setCell ?_ (by first | omega | (simp; omega) | (simp; done)) _ | refine New.trans ?_ (by assumption)))⟩
  have hm : (n : Int) ≤ 1048576 := by omega
  have hm0 : (0 : Int) ≤ (n : Int) := by omega
  go_enter Try.func3, Try.ntmps3
  go_wp2_with fail
  refine (DrawFinishFrames_any A n c HM.out hnc _ HB.out).mono ?_
  rintro e w1 ⟨B1, m1, d1, ys, B2, m2, d2, zs, rfl, I1, I2, l1, l2, S1, S2, _, _, N1a⟩
  have s1 := N1a.le
  have N1 := Lib.hid ((New.refl w).trans N1a); clear N1a
  replace I1 := Lib.hid I1
  replace I2 := Lib.hid I2
  have LY := Lib.hid I1.out.len; have LZ2 := Lib.hid I2.out.len
  replace S1 := Lib.hid S1; replace S2 := Lib.hid S2
  by_cases hz : doneA ys zs = []
  · have HZ := Lib.hid hz
    clear hz
    go_wp2_with fail
    refine (FinishFrames_ans ys zs B1 m1 d1 B2 m2 d2 _ I1.out I2.out (by omega) (by omega)).mono ?_
    rintro e w2 ⟨A2, n2, c2, rfl, l2, r2, N2a⟩
    have s2 := N2a.le
    have I1 := Lib.hid (I1.out.new N2a)
    have I2 := Lib.hid (I2.out.new N2a)
    have N2 := Lib.hid (N1.out.trans N2a); clear N2a
    rw [HZ.out] at l2 r2
    obtain rfl : 0 = n2 := by simpa using l2
    have R2 := Lib.hid r2; clear l2 r2
    go_wp2_with fail
    refine (SFinishFrames_ans ys zs B1 m1 d1 B2 m2 d2 _ I1.out I2.out (by omega) (by omega)).mono ?_
    rintro e w3 ⟨A3, n3, c3, rfl, l3, r3, N3a⟩
    have s3 := N3a.le
    have I1 := Lib.hid (I1.out.new N3a)
    have I2 := Lib.hid (I2.out.new N3a)
    have R2 := Lib.hid (R2.out.new N3a)
    have N3 := Lib.hid (N2.out.trans N3a); clear N3a
    rw [HZ.out] at l3 r3
    obtain rfl : 0 = n3 := by simpa using l3
    have R3 := Lib.hid r3; clear l3 r3
    go_wp2_with fail
    refine (equalInts_any _ _ 0 0 _ _ [] [] (by omega) (by omega) _ (R2.out.ints rfl) (R3.out.ints rfl)).mono ?_
    (rw [decide_eq_true rfl]; rintro e w4 ⟨rfl, N4a⟩)
    have s4 := N4a.le
    have I1 := Lib.hid (I1.out.new N4a)
    have I2 := Lib.hid (I2.out.new N4a)
    have R2 := Lib.hid (R2.out.new N4a)
    have R3 := Lib.hid (R3.out.new N4a)
    have N4 := Lib.hid (N3.out.trans N4a); clear N4a
    go_wp2_with fail
    refine (SFinishFrames_ans ys zs B1 m1 d1 B2 m2 d2 _ I1.out I2.out (by omega) (by omega)).mono ?_
    rintro e w5 ⟨A5, n5, c5, rfl, l5, r5, N5a⟩
    have s5 := N5a.le
    have I1 := Lib.hid (I1.out.new N5a)
    have I2 := Lib.hid (I2.out.new N5a)
    have R2 := Lib.hid (R2.out.new N5a)
    have R3 := Lib.hid (R3.out.new N5a)
    have N5 := Lib.hid (N4.out.trans N5a); clear N5a
    rw [HZ.out] at l5 r5
    obtain rfl : 0 = n5 := by simpa using l5
    have R5 := Lib.hid r5; clear l5 r5
    go_wp2_with fail
    refine (equalInts_any _ _ 0 0 _ _ [] [] (by omega) (by omega) _ (R2.out.ints rfl) (R5.out.ints rfl)).mono ?_
    (rw [decide_eq_true rfl]; rintro e w6 ⟨rfl, N6a⟩)
    have s6 := N6a.le
    have I1 := Lib.hid (I1.out.new N6a)
    have I2 := Lib.hid (I2.out.new N6a)
    have R2 := Lib.hid (R2.out.new N6a)
    have R3 := Lib.hid (R3.out.new N6a)
    have R5 := Lib.hid (R5.out.new N6a)
    have N6 := Lib.hid (N5.out.trans N6a); clear N6a
    go_wp2
    go_ret
    exact ⟨rfl, N6.out⟩
  · have zp : 0 < (doneA ys zs).length := List.length_pos_iff.2 hz
    have zc := doneA_len (cs := ys) (bs := zs)
    obtain ⟨nz, LZ⟩ : ∃ nz, Hid ((doneA ys zs).length = nz) := ⟨_, Lib.hid rfl⟩
    have z1 : 1 ≤ nz := by have := LZ.out; omega
    have z8 : nz ≤ 1048576 := by have := LZ.out; omega
    have zi : (1 : Int) ≤ (nz : Int) := by omega
    have zj : (nz : Int) ≤ 1048576 := by omega
    have zb : ((nz : Int) == 0) = false := by simp; omega
    have NE := Lib.hid hz
    clear hz zp zc
    go_wp2_with fail
    refine (FinishFrames_ans ys zs B1 m1 d1 B2 m2 d2 _ I1.out I2.out (by omega) (by omega)).mono ?_
    rintro e w2 ⟨A2, n2, c2, rfl, l2, r2, N2a⟩
    have s2 := N2a.le
    have I1 := Lib.hid (I1.out.new N2a)
    have I2 := Lib.hid (I2.out.new N2a)
    have N2 := Lib.hid (N1.out.trans N2a); clear N2a
    obtain rfl : nz = n2 := by have := LZ.out; omega
    have R2 := Lib.hid r2; clear l2 r2
    go_wp2_with fail
    refine (SFinishFrames_ans ys zs B1 m1 d1 B2 m2 d2 _ I1.out I2.out (by omega) (by omega)).mono ?_
    rintro e w3 ⟨A3, n3, c3, rfl, l3, r3, N3a⟩
    have s3 := N3a.le
    have I1 := Lib.hid (I1.out.new N3a)
    have I2 := Lib.hid (I2.out.new N3a)
    have R2 := Lib.hid (R2.out.new N3a)
    have N3 := Lib.hid (N2.out.trans N3a); clear N3a
    obtain rfl : nz = n3 := by have := LZ.out; omega
    have R3 := Lib.hid r3; clear l3 r3
    go_wp2_with fail
    refine (equalInts_any _ _ nz nz _ _ _ _ (by omega) (by omega) _ (R2.out.ints LZ.out) (R3.out.ints LZ.out)).mono ?_
    (rw [decide_eq_true rfl]; rintro e w4 ⟨rfl, N4a⟩)
    have s4 := N4a.le
    have I1 := Lib.hid (I1.out.new N4a)
    have I2 := Lib.hid (I2.out.new N4a)
    have R2 := Lib.hid (R2.out.new N4a)
    have R3 := Lib.hid (R3.out.new N4a)
    have N4 := Lib.hid (N3.out.trans N4a); clear N4a
    have hok : jobsB ys zs = true := by
      have h := NE.out
      unfold doneA at h
      by_cases hk : jobsB ys zs = true
      · exact hk
      · rw [if_neg hk] at h; exact absurd rfl h
    obtain ⟨jy, jz⟩ := jobsB_iff.1 hok
    have he : doneA ys zs = doneL ys zs := by unfold doneA; rw [if_pos hok]
    have nm : nz = m1 := by have h1 := LZ.out; have h2 := LY.out; rw [he, doneL_len] at h1; omega
    have HE := Lib.hid he; have JY := Lib.hid jy; have JZ := Lib.hid jz
    have n12 : nz ≤ 12 := by have := jy.len; have := LY.out; omega
    subst nm
    by_cases hm0 : m2 = 0
    · subst hm0
      clear hok he jy jz
      go_wp2_with fail
      refine (SFinishFrames_ans ys zs B1 nz d1 B2 0 d2 _ I1.out I2.out (by omega) (by omega)).mono ?_
      rintro e w5 ⟨A5, n5, c5, rfl, l5, r5, N5a⟩
      have s5 := N5a.le
      have I1 := Lib.hid (I1.out.new N5a)
      have I2 := Lib.hid (I2.out.new N5a)
      have R2 := Lib.hid (R2.out.new N5a)
      have R3 := Lib.hid (R3.out.new N5a)
      have N5 := Lib.hid (N4.out.trans N5a); clear N5a
      obtain rfl : nz = n5 := by have := LZ.out; omega
      have R5 := Lib.hid r5; clear l5 r5
      go_wp2_with fail
      refine (equalInts_any _ _ nz nz _ _ _ _ (by omega) (by omega) _ (R2.out.ints LZ.out) (R5.out.ints LZ.out)).mono ?_
      rw [decide_eq_true rfl]
      rintro e w6 ⟨rfl, N6a⟩
      have s6 := N6a.le
      have I1 := Lib.hid (I1.out.new N6a)
      have I2 := Lib.hid (I2.out.new N6a)
      have R2 := Lib.hid (R2.out.new N6a)
      have R3 := Lib.hid (R3.out.new N6a)
      have R5 := Lib.hid (R5.out.new N6a)
      have N6 := Lib.hid (N5.out.trans N6a); clear N6a
      go_wp2
      go_ret
      exact ⟨rfl, N6.out⟩
    · have hmb : ((m2 : Int) == 0) = false := by simp; omega
      have hmp : 0 < m2 := by omega
      have hm1 : (0 : Int) < (m2 : Int) := by omega
      have zl : 0 < zs.length := by rw [LZ2.out]; exact hmp
      obtain ⟨c, coff, rfl, hcb, hcc⟩ := I2.out.at_ hmp
      have g1 : w4.cell? ⟨c, coff, none⟩ = some (.int .i64 (zs.getD 0 0)) := hcc 0 hmp
      clear hcc hcb
      by_cases hk : zs.getD 0 0 = 1000
      · rw [hk] at g1
        clear hok he jy jz hk
        go_wp2_with fail
        refine (SFinishFrames_ans ys zs B1 nz d1 _ m2 d2 _ I1.out I2.out (by omega) (by omega)).mono ?_
        rintro e w5 ⟨A5, n5, c5, rfl, l5, r5, N5a⟩
        have s5 := N5a.le
        have I1 := Lib.hid (I1.out.new N5a)
        have I2 := Lib.hid (I2.out.new N5a)
        have R2 := Lib.hid (R2.out.new N5a)
        have R3 := Lib.hid (R3.out.new N5a)
        have N5 := Lib.hid (N4.out.trans N5a); clear N5a
        obtain rfl : nz = n5 := by have := LZ.out; omega
        have R5 := Lib.hid r5; clear l5 r5
        go_wp2_with fail
        refine (equalInts_any _ _ nz nz _ _ _ _ (by omega) (by omega) _ (R2.out.ints LZ.out) (R5.out.ints LZ.out)).mono ?_
        rw [decide_eq_true rfl]
        rintro e w6 ⟨rfl, N6a⟩
        have s6 := N6a.le
        have I1 := Lib.hid (I1.out.new N6a)
        have I2 := Lib.hid (I2.out.new N6a)
        have R2 := Lib.hid (R2.out.new N6a)
        have R3 := Lib.hid (R3.out.new N6a)
        have R5 := Lib.hid (R5.out.new N6a)
        have N6 := Lib.hid (N5.out.trans N6a); clear N6a
        go_wp2
        go_ret
        exact ⟨rfl, N6.out⟩
      · have JM := Lib.hid (jz.more zl hk)
        have zb := jz.at_ 0
        have BD : Hid (∀ i, i < nz → (0 ≤ (doneA ys zs).getD i 0 → 0 ≤ (doneA ys (zs.set 0 (zs.getD 0 0 + 1))).getD i 0 ∧ (doneA ys (zs.set 0 (zs.getD 0 0 + 1))).getD i 0 ≤ (doneA ys zs).getD i 0) ∧ -1 ≤ (doneA ys zs).getD i 0 ∧ (doneA ys zs).getD i 0 ≤ 12 ∧ -1 ≤ (doneA ys (zs.set 0 (zs.getD 0 0 + 1))).getD i 0 ∧ (doneA ys (zs.set 0 (zs.getD 0 0 + 1))).getD i 0 ≤ 12) := Lib.hid (fun i hi => by
          have hl : i < ys.length := by rw [LY.out]; exact hi
          have e1 : doneA ys (zs.set 0 (zs.getD 0 0 + 1)) = doneL ys (zs.set 0 (zs.getD 0 0 + 1)) := by unfold doneA; rw [if_pos (jobsB_iff.2 ⟨JY.out, JM.out⟩)]
          have b1 := done_bd (cs := ys) JZ.out i
          have b2 := done_bd (cs := ys) JM.out i
          rw [HE.out, e1]
          refine ⟨?_, b1.1, b1.2, b2.1, b2.2⟩
          rw [doneL_at hl, doneL_at hl, List.length_set]
          exact fun h => frame_more zl _ h)
        have LM : Hid ((doneA ys (zs.set 0 (zs.getD 0 0 + 1))).length = nz) := Lib.hid (by unfold doneA; rw [if_pos (jobsB_iff.2 ⟨JY.out, JM.out⟩), doneL_len]; exact LY.out)
        have kb : (zs.getD 0 0 == 1000) = false := beq_eq_false_iff_ne.2 hk
        have M14 : m2 ≤ 12 := by have := jz.len; have := LZ2.out; omega
        obtain ⟨z0, hz0⟩ : ∃ z0, zs.getD 0 0 = z0 := ⟨_, rfl⟩
        rw [hz0] at g1 zb kb BD LM
        have HZ0 := Lib.hid hz0
        obtain ⟨zb0, zb1⟩ := zb
        have NN := Lib.hid N4.out
        clear hok he jy jz hk hz0
        go_wp2_with (at_builtin; refine wp_app rfl _ _ rfl w4.heap.size _ [] rfl (Own.empty w4 0 (Nat.le_refl _) rfl) (some ⟨c, coff, none⟩) m2 d2 zs rfl (I2.out.new ((New.refl _).alloc _)) (by simp; omega) (by simp) ?_; intro v26 w26 O26 G26; (have N26 := Lib.hid (new_own (New.alloc (New.refl w4) _) G26 (Own.empty w4 0 (Nat.le_refl _) rfl) (Nat.le_refl _))); (rw [List.nil_append] at O26); (obtain ⟨g, cg, rfl, hg, RW, hcg⟩ := O26.some_ LZ2.out hmp); (have c0 := RW.c 0 zl); (have f0 := RW.f 0 zl); (rw [HZ0.out] at c0))
        have RS := Lib.hid (RW.set_ zl (z0 + 1))
        have NS := Lib.hid (N26.out.setCell (p := ⟨g, 0, none⟩) hg (.int .i64 (z0 + 1)))
        have hcg' : (m2 : Int) ≤ (cg : Int) := by omega
        clear O26 G26 RW
        have LS : (zs.set 0 (z0 + 1)).length = m2 := by rw [List.length_set]; exact LZ2.out
        go_wp2_with fail
        refine (FinishFrames_ans ys (zs.set 0 (z0 + 1)) B1 nz d1 _ m2 cg _ ((I1.out.new NS.out)) (by have := RS.out.ints; rw [LS] at this; exact this) (by omega) (by omega)).mono ?_
        rintro e w27 ⟨A27, n27, c27, rfl, l27, r27, N27⟩
        obtain rfl : nz = n27 := by have := LM.out; omega
        have NT := Lib.hid (NS.out.trans N27)
        have R27 := Lib.hid r27
        have RG := Lib.hid (R2.out.new NT.out)
        have NP := Lib.hid (NN.out.trans NT.out)
        obtain ⟨b', off', rfl, hb', hc'⟩ := (RG.out.ints LZ.out).at_ (by omega)
        obtain ⟨b3, off3, rfl, hb3, hc3⟩ := (R27.out.ints LM.out).at_ (by omega)
        have HC' := Lib.hid hc'; have HC3 := Lib.hid hc3
        clear hc' hc3 l27 r27 N27 RS NS
        have NN := Lib.hid NP.out
        go_wp2
        go_loopw [8] (fun i wr => ∃ j : Nat, j ≤ nz ∧ i = .int .i64 j ∧ ∃ q, wr = w27.drewN q) (fun i _ => nz - (intOf i).toNat)
        case atStart => exact ⟨0, Nat.zero_le _, rfl, 0, rfl⟩
        case round =>
          obtain ⟨j, hj, rfl, q, rfl⟩ := hrel
          by_cases hlt : j < nz
          · have g1 : w27.cell? ⟨b', off' + j, none⟩ = some (.int .i64 ((doneA ys zs).getD j 0)) := HC'.out j hlt
            have g2 : w27.cell? ⟨b3, off3 + j, none⟩ = some (.int .i64 ((doneA ys (zs.set 0 (z0 + 1))).getD j 0)) := HC3.out j hlt
            obtain ⟨e1, e2, e3, e4, e5⟩ := BD.out j hlt
            have j0 : (0 : Int) ≤ (j : Int) := by omega
            have j1 : (j : Int) < (nz : Int) := by omega
            generalize (doneA ys zs).getD j 0 = u1 at *
            generalize (doneA ys (zs.set 0 (z0 + 1))).getD j 0 = u2 at *
            have jn : decide (nz ≤ j) = false := decide_eq_false (by omega)
            have jn2 : decide ((nz : Int) ≤ (j : Int)) = false := decide_eq_false (by omega)
            by_cases hp : 0 ≤ u1
            · obtain ⟨h1, h2⟩ := e1 hp
              have h3 : decide (u2 < 0) = false := decide_eq_false (by omega)
              have h4 : decide (u1 < u2) = false := decide_eq_false (by omega)
              clear e1
              go_wp2
              go_quiet (fail)
              go_wp2
              go_roundw
              case rel => exact ⟨j + 1, by omega, by go_num, _, rfl⟩
              case measure => simp [intOf]; omega
            · have dp : decide (0 ≤ u1) = false := decide_eq_false hp
              have dq : u1 < 0 := by omega
              clear e1
              go_wp2
              go_quiet (fail)
              go_wp2
              go_roundw
              case rel => exact ⟨j + 1, by omega, by go_num, _, rfl⟩
              case measure => simp [intOf]; omega
          · obtain rfl : nz = j := by omega
            go_wp2
            go_ret
            exact ⟨rfl, NN.out.drewN q⟩
end Go.Proofs.Yteofjfglmngmnaa
