/- The law FnWorkLeftDone, walked: nothing is left of done jobs, and something of those that are not done and cost something. Condition: the code can be read. -/
import Derived.Test.YteofjfglmngmnaaDrawFr
import Derived.Test.YteofjfglmngmnaaFrameE
namespace Go.Proofs.Yteofjfglmngmnaa
open Go.RowKit

set_option maxHeartbeats 4000000 in
theorem lawWorkLeftDone (A : Option Addr) (n c : Nat) (hn : n ≤ maxLen) (hnc : n ≤ c) (w : World) (hb : Bytes w A n) :
    Calls Try.prog 4 #[.slice A n c] w fun e w' => e = .returned (.bool true) ∧ New w w' := by
  have HB := Lib.hid hb; have HM := Lib.hid hn
  clear hb
  unfold maxLen at hn
  by_cases hbig : 1048576 < n
  · go_enter Try.func4, Try.ntmps4
    go_wp2
    go_ret
    exact ⟨rfl, by (repeat (first | exact New.refl _ | assumption | refine New.alloc ?_ _ | refine New.drew ?_ | refine New.drewN ?_ _ | refine New.setCell ?_ (by first | omega | (simp; omega) | (simp; done)) _ | refine New.trans ?_ (by assumption)))⟩
  have hm : (n : Int) ≤ 1048576 := by omega
  have hm0 : (0 : Int) ≤ (n : Int) := by omega
  go_enter Try.func4, Try.ntmps4
  go_wp2_with fail
  refine (DrawWorkLeft_any A n c HM.out hnc _ HB.out).mono ?_
  rintro e w1 ⟨B1, m1, d1, ys, B2, m2, d2, zs, rfl, I1, I2, l1, l2, S1, S2, _, _, N1a⟩
  have s1 := N1a.le
  have N1 := Lib.hid ((New.refl w).trans N1a); clear N1a
  replace I1 := Lib.hid I1
  replace I2 := Lib.hid I2
  have LY := Lib.hid I1.out.len; have LZ2 := Lib.hid I2.out.len
  replace S1 := Lib.hid S1; replace S2 := Lib.hid S2
  by_cases hz : remA ys zs = []
  · have HZ := Lib.hid hz
    clear hz
    go_wp2_with fail
    refine (WorkLeft_ans ys zs B1 m1 d1 B2 m2 d2 _ I1.out I2.out (by omega) (by omega)).mono ?_
    rintro e w2 ⟨A2, n2, c2, rfl, l2, r2, N2a⟩
    have s2 := N2a.le
    have I1 := Lib.hid (I1.out.new N2a)
    have I2 := Lib.hid (I2.out.new N2a)
    have N2 := Lib.hid (N1.out.trans N2a); clear N2a
    rw [HZ.out] at l2 r2
    obtain rfl : 0 = n2 := by simpa using l2
    have R2 := Lib.hid r2; clear l2 r2
    go_wp2_with fail
    refine (SWorkLeft_ans ys zs B1 m1 d1 B2 m2 d2 _ I1.out I2.out (by omega) (by omega)).mono ?_
    rintro e w3 ⟨A3, n3, c3, rfl, l3, r3, N3a⟩
    have s3 := N3a.le
    have I1 := Lib.hid (I1.out.new N3a)
    have I2 := Lib.hid (I2.out.new N3a)
    have R2 := Lib.hid (R2.out.new N3a)
    have N3 := Lib.hid (N2.out.trans N3a); clear N3a
    rw [HZ.out] at l3 r3
    obtain rfl : 0 = n3 := by simpa using l3
    have R3 := Lib.hid r3; clear l3 r3
    go_wp2_with fail
    refine (equalInts_any _ _ 0 0 _ _ [] [] (by omega) (by omega) _ (R2.out.ints rfl) (R3.out.ints rfl)).mono ?_
    (rw [decide_eq_true rfl]; rintro e w4 ⟨rfl, N4a⟩)
    have s4 := N4a.le
    have I1 := Lib.hid (I1.out.new N4a)
    have I2 := Lib.hid (I2.out.new N4a)
    have R2 := Lib.hid (R2.out.new N4a)
    have R3 := Lib.hid (R3.out.new N4a)
    have N4 := Lib.hid (N3.out.trans N4a); clear N4a
    go_wp2_with fail
    refine (SWorkLeft_ans ys zs B1 m1 d1 B2 m2 d2 _ I1.out I2.out (by omega) (by omega)).mono ?_
    rintro e w5 ⟨A5, n5, c5, rfl, l5, r5, N5a⟩
    have s5 := N5a.le
    have I1 := Lib.hid (I1.out.new N5a)
    have I2 := Lib.hid (I2.out.new N5a)
    have R2 := Lib.hid (R2.out.new N5a)
    have R3 := Lib.hid (R3.out.new N5a)
    have N5 := Lib.hid (N4.out.trans N5a); clear N5a
    rw [HZ.out] at l5 r5
    obtain rfl : 0 = n5 := by simpa using l5
    have R5 := Lib.hid r5; clear l5 r5
    go_wp2_with fail
    refine (equalInts_any _ _ 0 0 _ _ [] [] (by omega) (by omega) _ (R2.out.ints rfl) (R5.out.ints rfl)).mono ?_
    (rw [decide_eq_true rfl]; rintro e w6 ⟨rfl, N6a⟩)
    have s6 := N6a.le
    have I1 := Lib.hid (I1.out.new N6a)
    have I2 := Lib.hid (I2.out.new N6a)
    have R2 := Lib.hid (R2.out.new N6a)
    have R3 := Lib.hid (R3.out.new N6a)
    have R5 := Lib.hid (R5.out.new N6a)
    have N6 := Lib.hid (N5.out.trans N6a); clear N6a
    go_wp2
    go_ret
    exact ⟨rfl, N6.out⟩
  · have zp : 0 < (remA ys zs).length := List.length_pos_iff.2 hz
    have zc := remA_len (cs := ys) (bs := zs)
    obtain ⟨nz, LZ⟩ : ∃ nz, Hid ((remA ys zs).length = nz) := ⟨_, Lib.hid rfl⟩
    have z1 : 1 ≤ nz := by have := LZ.out; omega
    have z8 : nz ≤ 1048576 := by have := LZ.out; omega
    have zi : (1 : Int) ≤ (nz : Int) := by omega
    have zj : (nz : Int) ≤ 1048576 := by omega
    have zb : ((nz : Int) == 0) = false := by simp; omega
    have NE := Lib.hid hz
    clear hz zp zc
    go_wp2_with fail
    refine (WorkLeft_ans ys zs B1 m1 d1 B2 m2 d2 _ I1.out I2.out (by omega) (by omega)).mono ?_
    rintro e w2 ⟨A2, n2, c2, rfl, l2, r2, N2a⟩
    have s2 := N2a.le
    have I1 := Lib.hid (I1.out.new N2a)
    have I2 := Lib.hid (I2.out.new N2a)
    have N2 := Lib.hid (N1.out.trans N2a); clear N2a
    obtain rfl : nz = n2 := by have := LZ.out; omega
    have R2 := Lib.hid r2; clear l2 r2
    go_wp2_with fail
    refine (SWorkLeft_ans ys zs B1 m1 d1 B2 m2 d2 _ I1.out I2.out (by omega) (by omega)).mono ?_
    rintro e w3 ⟨A3, n3, c3, rfl, l3, r3, N3a⟩
    have s3 := N3a.le
    have I1 := Lib.hid (I1.out.new N3a)
    have I2 := Lib.hid (I2.out.new N3a)
    have R2 := Lib.hid (R2.out.new N3a)
    have N3 := Lib.hid (N2.out.trans N3a); clear N3a
    obtain rfl : nz = n3 := by have := LZ.out; omega
    have R3 := Lib.hid r3; clear l3 r3
    go_wp2_with fail
    refine (equalInts_any _ _ nz nz _ _ _ _ (by omega) (by omega) _ (R2.out.ints LZ.out) (R3.out.ints LZ.out)).mono ?_
    (rw [decide_eq_true rfl]; rintro e w4 ⟨rfl, N4a⟩)
    have s4 := N4a.le
    have I1 := Lib.hid (I1.out.new N4a)
    have I2 := Lib.hid (I2.out.new N4a)
    have R2 := Lib.hid (R2.out.new N4a)
    have R3 := Lib.hid (R3.out.new N4a)
    have N4 := Lib.hid (N3.out.trans N4a); clear N4a
    have hok : jobsB ys zs = true := by
      have h := NE.out
      unfold remA at h
      by_cases hk : jobsB ys zs = true
      · exact hk
      · rw [if_neg hk] at h; exact absurd rfl h
    obtain ⟨jy, jz⟩ := jobsB_iff.1 hok
    have he : remA ys zs = remL ys zs.sum := by unfold remA; rw [if_pos hok]
    have nm : nz = m1 := by have h1 := LZ.out; have h2 := LY.out; rw [he, remL_len] at h1; omega
    have HE := Lib.hid he; have JY := Lib.hid jy; have JZ := Lib.hid jz
    have n12 : nz ≤ 12 := by have := jy.len; have := LY.out; omega
    subst nm
    by_cases hm0 : m2 = 0
    · subst hm0
      clear hok he jy jz
      go_wp2_with fail
      refine (SWorkLeft_ans ys zs B1 nz d1 B2 0 d2 _ I1.out I2.out (by omega) (by omega)).mono ?_
      rintro e w5 ⟨A5, n5, c5, rfl, l5, r5, N5a⟩
      have s5 := N5a.le
      have I1 := Lib.hid (I1.out.new N5a)
      have I2 := Lib.hid (I2.out.new N5a)
      have R2 := Lib.hid (R2.out.new N5a)
      have R3 := Lib.hid (R3.out.new N5a)
      have N5 := Lib.hid (N4.out.trans N5a); clear N5a
      obtain rfl : nz = n5 := by have := LZ.out; omega
      have R5 := Lib.hid r5; clear l5 r5
      go_wp2_with fail
      refine (equalInts_any _ _ nz nz _ _ _ _ (by omega) (by omega) _ (R2.out.ints LZ.out) (R5.out.ints LZ.out)).mono ?_
      rw [decide_eq_true rfl]
      rintro e w6 ⟨rfl, N6a⟩
      have s6 := N6a.le
      have I1 := Lib.hid (I1.out.new N6a)
      have I2 := Lib.hid (I2.out.new N6a)
      have R2 := Lib.hid (R2.out.new N6a)
      have R3 := Lib.hid (R3.out.new N6a)
      have R5 := Lib.hid (R5.out.new N6a)
      have N6 := Lib.hid (N5.out.trans N6a); clear N6a
      go_wp2
      go_ret
      exact ⟨rfl, N6.out⟩
    · have hmb : ((m2 : Int) == 0) = false := by simp; omega
      have hmp : 0 < m2 := by omega
      have hd : doneA ys zs = doneL ys zs := by unfold doneA; rw [if_pos hok]
      have LD : Hid ((doneA ys zs).length = nz) := Lib.hid (by rw [hd, doneL_len]; exact LY.out)
      have FA : Hid (∀ i, i < nz → -1 ≤ (doneA ys zs).getD i 0 ∧ (doneA ys zs).getD i 0 ≤ 12 ∧ 0 ≤ (remA ys zs).getD i 0 ∧ (remA ys zs).getD i 0 ≤ 1000 ∧ 0 ≤ ys.getD i 0 ∧ ys.getD i 0 ≤ 1000 ∧ (0 ≤ (doneA ys zs).getD i 0 → (remA ys zs).getD i 0 = 0) ∧ ((doneA ys zs).getD i 0 < 0 → (remA ys zs).getD i 0 = 0 → ys.getD i 0 = 0)) := Lib.hid (fun i hi => by
        have hl : i < ys.length := by rw [LY.out]; exact hi
        have h0 := done_bd (cs := ys) jz i
        have h1 := remC_bd (T := zs.sum) jy hl
        have h2 := jy.at_ i
        have c1 := cumS_succ hl
        rw [hd, he, remL_at hl]
        refine ⟨h0.1, h0.2, h1.1, by omega, h2.1, h2.2, fun hp => ?_, fun hn hz => ?_⟩
        · rw [doneL_at hl] at hp
          rcases frameOf_cases (bs := zs) (cumS ys (i + 1)) zs.length with ⟨e, _⟩ | ⟨k, hk, e, _, hk2⟩
          · omega
          · have := jz.top (k + 1)
            unfold remC
            rw [if_pos (by omega)]
        · rw [doneL_at hl] at hn
          rcases frameOf_cases (bs := zs) (cumS ys (i + 1)) zs.length with ⟨_, hno⟩ | ⟨k, hk, e, _, hk2⟩
          · have h3 := hno (zs.length - 1) (by rw [LZ2.out]; omega)
            rw [show zs.length - 1 + 1 = zs.length by rw [LZ2.out]; omega, cumS_all] at h3
            unfold remC at hz
            rw [if_neg (by omega)] at hz
            split at hz <;> omega
          · omega)
      clear hok he jy jz hd hm0
      go_wp2_with fail
      refine (FinishFrames_ans ys zs B1 nz d1 B2 m2 d2 _ I1.out I2.out (by omega) (by omega)).mono ?_
      rintro e w5 ⟨A5, n5, c5, rfl, l5, r5, N5a⟩
      have s5 := N5a.le
      have I1 := Lib.hid (I1.out.new N5a)
      have I2 := Lib.hid (I2.out.new N5a)
      have R2 := Lib.hid (R2.out.new N5a)
      have R3 := Lib.hid (R3.out.new N5a)
      have N5 := Lib.hid (N4.out.trans N5a); clear N5a
      obtain rfl : nz = n5 := by have := LD.out; omega
      have R5 := Lib.hid r5; clear l5 r5
      obtain ⟨b', off', rfl, hb', hc'⟩ := (R2.out.ints LZ.out).at_ (by omega)
      obtain ⟨b3, off3, rfl, hb3, hc3⟩ := (R5.out.ints LD.out).at_ (by omega)
      obtain ⟨b, off, rfl, hb, hc⟩ := I1.out.at_ (by omega)
      have HC' := Lib.hid hc'; have HC := Lib.hid hc; have HC3 := Lib.hid hc3
      clear hc hc' hc3
      have NN := Lib.hid N5.out
      go_wp2
      go_loopw [7] (fun i wr => ∃ j : Nat, j ≤ nz ∧ i = .int .i64 j ∧ ∃ q, wr = w5.drewN q) (fun i _ => nz - (intOf i).toNat)
      case atStart => exact ⟨0, Nat.zero_le _, rfl, 0, rfl⟩
      case round =>
        obtain ⟨j, hj, rfl, q, rfl⟩ := hrel
        by_cases hlt : j < nz
        · have g1 : w5.cell? ⟨b', off' + j, none⟩ = some (.int .i64 ((remA ys zs).getD j 0)) := HC'.out j hlt
          have g2 : w5.cell? ⟨b, off + j, none⟩ = some (.int .i64 (ys.getD j 0)) := HC.out j hlt
          have g3 : w5.cell? ⟨b3, off3 + j, none⟩ = some (.int .i64 ((doneA ys zs).getD j 0)) := HC3.out j hlt
          obtain ⟨e1, e2, e3, e4, e5, e6, e7, e8⟩ := FA.out j hlt
          have j0 : (0 : Int) ≤ (j : Int) := by omega
          have j1 : (j : Int) < (nz : Int) := by omega
          generalize (remA ys zs).getD j 0 = u1 at *
          generalize ys.getD j 0 = u2 at *
          generalize (doneA ys zs).getD j 0 = u3 at *
          by_cases hp : 0 ≤ u3
          · have hu := e7 hp
            subst hu
            have hp2 : ¬ u3 < 0 := by omega
            clear e7 e8
            go_wp2
            go_roundw
            case rel => exact ⟨j + 1, by omega, by go_num, _, rfl⟩
            case measure => simp [intOf]; omega
          · have dp : decide (0 ≤ u3) = false := decide_eq_false hp
            have hn : u3 < 0 := by omega
            have e9 := e8 hn
            clear e7 e8 hp
            by_cases hu : u1 = 0
            · have hv := e9 hu
              subst hu hv
              clear e9
              go_wp2
              go_roundw
              case rel => exact ⟨j + 1, by omega, by go_num, _, rfl⟩
              case measure => simp [intOf]; omega
            · have hub : (u1 == 0) = false := by simpa using hu
              clear e9 hu
              go_wp2
              go_roundw
              case rel => exact ⟨j + 1, by omega, by go_num, _, rfl⟩
              case measure => simp [intOf]; omega
        · obtain rfl : nz = j := by omega
          go_wp2
          go_ret
          exact ⟨rfl, NN.out.drewN q⟩
end Go.Proofs.Yteofjfglmngmnaa
