/- The law FnFinishFrames, walked: jobs are done in the order of their numbers. Condition: the code can be read. -/
import Derived.Test.YtehhdjkdncpjcaaDrawFr
import Derived.Test.YtehhdjkdncpjcaaFrameE
namespace Go.Proofs.Ytehhdjkdncpjcaa
open Go.RowKit

set_option maxHeartbeats 4000000 in
theorem lawFinishFrames (A : Option Addr) (n c : Nat) (hn : n ≤ maxLen) (hnc : n ≤ c) (w : World) (hb : Bytes w A n) :
    Calls Try.prog 7 #[.slice A n c] w fun e w' => e = .returned (.bool true) ∧ New w w' := by
  have HB := Lib.hid hb; have HM := Lib.hid hn
  clear hb
  unfold maxLen at hn
  by_cases hbig : 1048576 < n
  · go_enter Try.func7, Try.ntmps7
    go_wp2
    go_ret
    exact ⟨rfl, by (repeat (first | exact New.refl _ | assumption | refine New.alloc ?_ _ | refine New.drew ?_ | refine New.drewN ?_ _ | refine New.setCell ?_ (by first | omega | (simp; omega) | (simp; done)) _ | refine New.trans ?_ (by assumption)))⟩
  have hm : (n : Int) ≤ 1048576 := by omega
  have hm0 : (0 : Int) ≤ (n : Int) := by omega
  go_enter Try.func7, Try.ntmps7
  go_wp2_with fail
  refine (DrawFinishFrames_any A n c HM.out hnc _ HB.out).mono ?_
  rintro e w1 ⟨B1, m1, d1, ys, B2, m2, d2, zs, rfl, I1, I2, l1, l2, S1, S2, N1a⟩
  have s1 := N1a.le
  have N1 := Lib.hid ((New.refl w).trans N1a); clear N1a
  replace I1 := Lib.hid I1
  replace I2 := Lib.hid I2
  have LY := Lib.hid I1.out.len; have LZ2 := Lib.hid I2.out.len
  replace S1 := Lib.hid S1; replace S2 := Lib.hid S2
  by_cases hz : doneA ys zs = []
  · have HZ := Lib.hid hz
    clear hz
    go_wp2_with fail
    refine (FinishFrames_ans ys zs B1 m1 d1 B2 m2 d2 _ I1.out I2.out (by omega) (by omega)).mono ?_
    rintro e w2 ⟨A2, n2, c2, rfl, l2, r2, N2a⟩
    have s2 := N2a.le
    have I1 := Lib.hid (I1.out.new N2a)
    have I2 := Lib.hid (I2.out.new N2a)
    have N2 := Lib.hid (N1.out.trans N2a); clear N2a
    rw [HZ.out] at l2 r2
    obtain rfl : 0 = n2 := by simpa using l2
    have R2 := Lib.hid r2; clear l2 r2
    go_wp2_with fail
    refine (SFinishFrames_ans ys zs B1 m1 d1 B2 m2 d2 _ I1.out I2.out (by omega) (by omega)).mono ?_
    rintro e w3 ⟨A3, n3, c3, rfl, l3, r3, N3a⟩
    have s3 := N3a.le
    have I1 := Lib.hid (I1.out.new N3a)
    have I2 := Lib.hid (I2.out.new N3a)
    have R2 := Lib.hid (R2.out.new N3a)
    have N3 := Lib.hid (N2.out.trans N3a); clear N3a
    rw [HZ.out] at l3 r3
    obtain rfl : 0 = n3 := by simpa using l3
    have R3 := Lib.hid r3; clear l3 r3
    go_wp2_with fail
    refine (equalInts_any _ _ 0 0 _ _ [] [] (by omega) (by omega) _ (R2.out.ints rfl) (R3.out.ints rfl)).mono ?_
    (rw [decide_eq_true rfl]; rintro e w4 ⟨rfl, N4a⟩)
    have s4 := N4a.le
    have I1 := Lib.hid (I1.out.new N4a)
    have I2 := Lib.hid (I2.out.new N4a)
    have R2 := Lib.hid (R2.out.new N4a)
    have R3 := Lib.hid (R3.out.new N4a)
    have N4 := Lib.hid (N3.out.trans N4a); clear N4a
    go_wp2_with fail
    refine (SFinishFrames_ans ys zs B1 m1 d1 B2 m2 d2 _ I1.out I2.out (by omega) (by omega)).mono ?_
    rintro e w5 ⟨A5, n5, c5, rfl, l5, r5, N5a⟩
    have s5 := N5a.le
    have I1 := Lib.hid (I1.out.new N5a)
    have I2 := Lib.hid (I2.out.new N5a)
    have R2 := Lib.hid (R2.out.new N5a)
    have R3 := Lib.hid (R3.out.new N5a)
    have N5 := Lib.hid (N4.out.trans N5a); clear N5a
    rw [HZ.out] at l5 r5
    obtain rfl : 0 = n5 := by simpa using l5
    have R5 := Lib.hid r5; clear l5 r5
    go_wp2_with fail
    refine (equalInts_any _ _ 0 0 _ _ [] [] (by omega) (by omega) _ (R2.out.ints rfl) (R5.out.ints rfl)).mono ?_
    (rw [decide_eq_true rfl]; rintro e w6 ⟨rfl, N6a⟩)
    have s6 := N6a.le
    have I1 := Lib.hid (I1.out.new N6a)
    have I2 := Lib.hid (I2.out.new N6a)
    have R2 := Lib.hid (R2.out.new N6a)
    have R3 := Lib.hid (R3.out.new N6a)
    have R5 := Lib.hid (R5.out.new N6a)
    have N6 := Lib.hid (N5.out.trans N6a); clear N6a
    go_wp2
    go_ret
    exact ⟨rfl, N6.out⟩
  · have zp : 0 < (doneA ys zs).length := List.length_pos_iff.2 hz
    have zc := doneA_len (cs := ys) (bs := zs)
    obtain ⟨nz, LZ⟩ : ∃ nz, Hid ((doneA ys zs).length = nz) := ⟨_, Lib.hid rfl⟩
    have z1 : 1 ≤ nz := by have := LZ.out; omega
    have z8 : nz ≤ 1048576 := by have := LZ.out; omega
    have zi : (1 : Int) ≤ (nz : Int) := by omega
    have zj : (nz : Int) ≤ 1048576 := by omega
    have zb : ((nz : Int) == 0) = false := by simp; omega
    have NE := Lib.hid hz
    clear hz zp zc
    go_wp2_with fail
    refine (FinishFrames_ans ys zs B1 m1 d1 B2 m2 d2 _ I1.out I2.out (by omega) (by omega)).mono ?_
    rintro e w2 ⟨A2, n2, c2, rfl, l2, r2, N2a⟩
    have s2 := N2a.le
    have I1 := Lib.hid (I1.out.new N2a)
    have I2 := Lib.hid (I2.out.new N2a)
    have N2 := Lib.hid (N1.out.trans N2a); clear N2a
    obtain rfl : nz = n2 := by have := LZ.out; omega
    have R2 := Lib.hid r2; clear l2 r2
    go_wp2_with fail
    refine (SFinishFrames_ans ys zs B1 m1 d1 B2 m2 d2 _ I1.out I2.out (by omega) (by omega)).mono ?_
    rintro e w3 ⟨A3, n3, c3, rfl, l3, r3, N3a⟩
    have s3 := N3a.le
    have I1 := Lib.hid (I1.out.new N3a)
    have I2 := Lib.hid (I2.out.new N3a)
    have R2 := Lib.hid (R2.out.new N3a)
    have N3 := Lib.hid (N2.out.trans N3a); clear N3a
    obtain rfl : nz = n3 := by have := LZ.out; omega
    have R3 := Lib.hid r3; clear l3 r3
    go_wp2_with fail
    refine (equalInts_any _ _ nz nz _ _ _ _ (by omega) (by omega) _ (R2.out.ints LZ.out) (R3.out.ints LZ.out)).mono ?_
    (rw [decide_eq_true rfl]; rintro e w4 ⟨rfl, N4a⟩)
    have s4 := N4a.le
    have I1 := Lib.hid (I1.out.new N4a)
    have I2 := Lib.hid (I2.out.new N4a)
    have R2 := Lib.hid (R2.out.new N4a)
    have R3 := Lib.hid (R3.out.new N4a)
    have N4 := Lib.hid (N3.out.trans N4a); clear N4a
    have hok : jobsB ys zs = true := by
      have h := NE.out
      unfold doneA at h
      by_cases hk : jobsB ys zs = true
      · exact hk
      · rw [if_neg hk] at h; exact absurd rfl h
    obtain ⟨jy, jz⟩ := jobsB_iff.1 hok
    have he : doneA ys zs = doneL ys zs := by unfold doneA; rw [if_pos hok]
    have nm : nz = m1 := by have h1 := LZ.out; have h2 := LY.out; rw [he, doneL_len] at h1; omega
    have HE := Lib.hid he; have JY := Lib.hid jy; have JZ := Lib.hid jz
    have n12 : nz ≤ 12 := by have := jy.len; have := LY.out; omega
    subst nm
    have MO : Hid (∀ i, i + 1 < nz → 0 ≤ (doneA ys zs).getD (i + 1) 0 → 0 ≤ (doneA ys zs).getD i 0 ∧ (doneA ys zs).getD i 0 ≤ (doneA ys zs).getD (i + 1) 0) := Lib.hid (fun i hi h => by
      rw [HE.out] at h ⊢
      exact done_mono JY.out (by rw [LY.out]; exact hi) h)
    have BD : Hid (∀ i, -1 ≤ (doneA ys zs).getD i 0 ∧ (doneA ys zs).getD i 0 ≤ 12) := Lib.hid (fun i => by rw [HE.out]; exact done_bd JZ.out i)
    obtain ⟨b', off', rfl, hb', hc'⟩ := (R2.out.ints LZ.out).at_ (by omega)
    have HC' := Lib.hid hc'
    clear hok he jy jz hc'
    have NN := Lib.hid N4.out
    go_wp2
    go_loopw [6] (fun i wr => ∃ j : Nat, 1 ≤ j ∧ j ≤ nz ∧ i = .int .i64 j ∧ ∃ q, wr = w4.drewN q) (fun i _ => nz - (intOf i).toNat)
    case atStart => exact ⟨1, Nat.le_refl _, z1, rfl, 0, rfl⟩
    case round =>
      obtain ⟨j, hj1, hj, rfl, q, rfl⟩ := hrel
      by_cases hlt : j < nz
      · obtain ⟨i, ji⟩ : ∃ i, j = i + 1 := ⟨j - 1, by omega⟩
        have g1 : w4.cell? ⟨b', off' + j, none⟩ = some (.int .i64 ((doneA ys zs).getD j 0)) := HC'.out j hlt
        have g2 : w4.cell? ⟨b', off' + i, none⟩ = some (.int .i64 ((doneA ys zs).getD i 0)) := HC'.out i (by omega)
        have e1 := MO.out i (by omega)
        rw [← ji] at e1
        have b1 := BD.out j
        have b2 := BD.out i
        have j0 : (0 : Int) ≤ (j : Int) := by omega
        have j1 : (j : Int) < (nz : Int) := by omega
        have i0 : (0 : Int) ≤ (i : Int) := by omega
        have i1 : (i : Int) < (nz : Int) := by omega
        have iw : IntKind.i64.wrap ((j : Int) - 1) = (i : Int) := by rw [IntWalk.i64_in _ (by omega)]; omega
        generalize (doneA ys zs).getD j 0 = u1 at *
        generalize (doneA ys zs).getD i 0 = u2 at *
        clear ji
        by_cases hneg : 0 ≤ u1
        · obtain ⟨e2, e3⟩ := e1 hneg
          clear e1
          go_wp2
          go_quiet (fail)
          go_wp2
          go_roundw
          case rel => exact ⟨j + 1, by omega, by omega, by go_num, _, rfl⟩
          case measure => simp [intOf]; omega
        · clear e1
          have db : decide (0 ≤ u1) = false := decide_eq_false hneg
          clear hneg
          go_wp2
          go_quiet (fail)
          go_wp2
          go_roundw
          case rel => exact ⟨j + 1, by omega, by omega, by go_num, _, rfl⟩
          case measure => simp [intOf]; omega
      · obtain rfl : nz = j := by omega
        go_wp2
        go_ret
        exact ⟨rfl, NN.out.drewN q⟩
end Go.Proofs.Ytehhdjkdncpjcaa
