/- The law FnFinishFramesBudget, walked: the costs up to a job are at most the budgets up to its frame, and more than those before it. Condition: the code can be read. -/
import Derived.Test.YtehhdjkdncpjcaaDrawFr
import Derived.Test.YtehhdjkdncpjcaaFrameE
namespace Go.Proofs.Ytehhdjkdncpjcaa
open Go.RowKit

set_option maxHeartbeats 4000000 in
theorem lawFinishFramesBudget (A : Option Addr) (n c : Nat) (hn : n ≤ maxLen) (hnc : n ≤ c) (w : World) (hb : Bytes w A n) :
    Calls Try.prog 8 #[.slice A n c] w fun e w' => e = .returned (.bool true) ∧ New w w' := by
  have HB := Lib.hid hb; have HM := Lib.hid hn
  clear hb
  unfold maxLen at hn
  by_cases hbig : 1048576 < n
  · go_enter Try.func8, Try.ntmps8
    go_wp2
    go_ret
    exact ⟨rfl, by (repeat (first | exact New.refl _ | assumption | refine New.alloc ?_ _ | refine New.drew ?_ | refine New.drewN ?_ _ | refine New.setCell ?_ (by first | omega | (simp; omega) | (simp; done)) _ | refine New.trans ?_ (by assumption)))⟩
  have hm : (n : Int) ≤ 1048576 := by omega
  have hm0 : (0 : Int) ≤ (n : Int) := by omega
  go_enter Try.func8, Try.ntmps8
  go_wp2_with fail
  refine (DrawFinishFrames_any A n c HM.out hnc _ HB.out).mono ?_
  rintro e w1 ⟨B1, m1, d1, ys, B2, m2, d2, zs, rfl, I1, I2, l1, l2, S1, S2, ⟨_, kd⟩, ⟨_, PC⟩, N1a⟩
  have s1 := N1a.le
  have N1 := Lib.hid ((New.refl w).trans N1a); clear N1a
  replace I1 := Lib.hid I1
  replace I2 := Lib.hid I2
  replace S1 := Lib.hid S1; replace S2 := Lib.hid S2
  have LY := Lib.hid I1.out.len; have LZ2 := Lib.hid I2.out.len
  by_cases hj : jobsB ys zs = true ∨ m1 = 0
  · have L : Hid ((doneA ys zs).length = m1) := Lib.hid (by
        unfold doneA
        rcases hj with hj | hj
        · rw [if_pos hj, doneL_len]; exact LY.out
        · split
          · rw [doneL_len]; exact LY.out
          · simp [hj])
    have HJ : Hid (0 < m1 → jobsB ys zs = true) := Lib.hid (fun h => hj.elim id (fun e => absurd h (by omega)))
    have n8 : m1 ≤ 1048576 := by omega
    clear hj
    go_wp2_with fail
    refine (FinishFrames_ans ys zs B1 m1 d1 B2 m2 d2 _ I1.out I2.out (by omega) (by omega)).mono ?_
    rintro e w2 ⟨A2, n2, c2, rfl, l2, r2, N2a⟩
    have s2 := N2a.le
    have I1 := Lib.hid (I1.out.new N2a)
    have I2 := Lib.hid (I2.out.new N2a)
    have N2 := Lib.hid (N1.out.trans N2a); clear N2a
    obtain rfl : m1 = n2 := by have := L.out; omega
    have R2 := Lib.hid r2; clear l2 r2
    go_wp2_with fail
    refine (SFinishFrames_ans ys zs B1 m1 d1 B2 m2 d2 _ I1.out I2.out (by omega) (by omega)).mono ?_
    rintro e w3 ⟨A3, n3, c3, rfl, l3, r3, N3a⟩
    have s3 := N3a.le
    have I1 := Lib.hid (I1.out.new N3a)
    have I2 := Lib.hid (I2.out.new N3a)
    have R2 := Lib.hid (R2.out.new N3a)
    have N3 := Lib.hid (N2.out.trans N3a); clear N3a
    obtain rfl : m1 = n3 := by have := L.out; omega
    have R3 := Lib.hid r3; clear l3 r3
    go_wp2_with fail
    refine (equalInts_any _ _ m1 m1 _ _ _ _ n8 n8 _ (R2.out.ints L.out) (R3.out.ints L.out)).mono ?_
    rw [decide_eq_true rfl]
    rintro e w4 ⟨rfl, N4a⟩
    have s4 := N4a.le
    have I1 := Lib.hid (I1.out.new N4a)
    have I2 := Lib.hid (I2.out.new N4a)
    have R2 := Lib.hid (R2.out.new N4a)
    have R3 := Lib.hid (R3.out.new N4a)
    have N4 := Lib.hid (N3.out.trans N4a); clear N4a
    have NN := Lib.hid N4.out
    have m14 : (m1 : Int) ≤ 14 := by omega
    have mb : ((m1 : Int) != (m1 : Int)) = false := by simp
    have kd2 := kd
    go_wp2
    go_loopw [6, 7] (fun t i wr => ∃ j : Nat, j ≤ m1 ∧ i = .int .i64 j ∧ t = .int .i64 (cumS ys j) ∧ wr = w4) (fun _ i _ => m1 - (intOf i).toNat)
    case atStart => exact ⟨0, Nat.zero_le _, rfl, by rw [cumS_zero], rfl⟩
    case round =>
      obtain ⟨j, hj, rfl, rfl, rfl⟩ := hrel
      have j0 : (0 : Int) ≤ (j : Int) := by omega
      by_cases hlt : j < m1
      · obtain ⟨jy, jz⟩ := jobsB_iff.1 (HJ.out (by omega))
        have he : doneA ys zs = doneL ys zs := by unfold doneA; rw [if_pos (HJ.out (by omega))]
        have jl : j < ys.length := by rw [LY.out]; exact hlt
        have hf : (doneA ys zs).getD j 0 = frameOf zs (cumS ys (j + 1)) m2 := by rw [he, doneL_at jl, LZ2.out]
        obtain ⟨b', off', rfl, hb', hc'⟩ := (R2.out.ints L.out).at_ (by omega)
        obtain ⟨b, off, rfl, hb, hc⟩ := I1.out.at_ (by omega)
        have g1 := hc' j hlt
        have g2 := hc j hlt
        have j1 : (j : Int) < (m1 : Int) := by omega
        have e1 := cumS_succ jl
        have E1 := Lib.hid (show ∀ q, q = j + 1 → cumS ys q = cumS ys j + ys.getD j 0 from fun q hq => by rw [hq]; exact e1)
        have b0 := jy.bd j
        have bz := jy.at_ j
        have m12 : m2 ≤ 12 := by have := jz.len; have := LZ2.out; omega
        have zb := jz.sum_bd
        rw [hf] at g1
        have FC := frameOf_cases (bs := zs) (cumS ys (j + 1)) m2
        rw [e1] at FC g1
        have SMZ := S2
        clear hc hc' jl hf he e1
        generalize ys.getD j 0 = z at *
        generalize cumS ys j = u at *
        rcases FC with ⟨e, hno⟩ | ⟨k, hk, e, hlo, hhi⟩
        · rw [e] at g1
          clear e
          rcases Nat.eq_zero_or_pos m2 with h0 | h0
          · have h00 : (m2 : Int) = 0 := by omega
            clear hno
            go_wp2
            go_roundw
            case rel => exact ⟨j + 1, by omega, by go_num, by rw [E1.out _ rfl], by first | trivial | rfl⟩
            case measure => simp [intOf]; omega
          · have h1 := hno (m2 - 1) (by omega)
            rw [show m2 - 1 + 1 = m2 by omega, cumS_over (by rw [LZ2.out]; exact Nat.le_refl _)] at h1
            have h00 : (0 : Int) < (m2 : Int) := by omega
            have h01 : (1 : Int) ≤ (m2 : Int) := by omega
            have ms : m2 ≤ 100 := by omega
            obtain ⟨sz, hsz⟩ : ∃ s, zs.sum = s := ⟨_, rfl⟩
            rw [hsz] at h1 zb
            have HZ := Lib.hid hsz
            clear hno hsz
            go_wp2_with fail
            refine (lsum_any B2 m2 d2 zs ms _ I2.out SMZ.out).mono ?_
            rw [HZ.out]
            rintro e w' ⟨rfl, rfl⟩
            go_wp2
            go_roundw
            case rel => exact ⟨j + 1, by omega, by go_num, by rw [E1.out _ rfl], by first | trivial | rfl⟩
            case measure => simp [intOf]; omega
        · rw [e] at g1
          clear e
          obtain ⟨c, coff, rfl, hcb, hcc⟩ := I2.out.at_ (by omega)
          obtain ⟨kk, hkk⟩ : ∃ kk, kk = k + 1 := ⟨_, rfl⟩
          have I3 := Lib.hid (I2.out.take_ (k := kk) (by omega))
          have I4 := Lib.hid (I2.out.take_ (k := k) (by omega))
          have S3 : Hid (Sml (zs.take kk)) := Lib.hid (jz.take kk).sml
          have S4 : Hid (Sml (zs.take k)) := Lib.hid (jz.take k).sml
          have b3 := (jz.take kk).sum_bd
          have b4 := (jz.take k).sum_bd
          have hhi2 : u + z ≤ (zs.take kk).sum := by rw [hkk]; exact hhi
          have hlo2 : 0 < k → (zs.take k).sum < u + z := fun h => by have := hlo (k - 1) (by omega); rw [show k - 1 + 1 = k by omega] at this; exact this
          have k0 : (0 : Int) ≤ (k : Int) := by omega
          have k1 : (k : Int) < (m2 : Int) := by omega
          have iw : IntKind.i64.wrap ((k : Int) + 1) = (kk : Int) := by rw [IntWalk.i64_in _ (by omega)]; omega
          have q0 : (0 : Int) ≤ (kk : Int) := by omega
          have q1 : (kk : Int) ≤ (d2 : Int) := by omega
          have q2 : (k : Int) ≤ (d2 : Int) := by omega
          have r1 : kk ≤ d2 := by omega
          have r2 : k ≤ d2 := by omega
          have r3 : kk ≤ 100 := by omega
          have r4 : k ≤ 100 := by omega
          have dm : decide (m2 ≤ k) = false := decide_eq_false (by omega)
          clear hcb hcc hhi hlo jy jz hkk zb
          obtain ⟨s3, hs3⟩ : ∃ s, (zs.take kk).sum = s := ⟨_, rfl⟩
          obtain ⟨s4, hs4⟩ : ∃ s, (zs.take k).sum = s := ⟨_, rfl⟩
          rw [hs3] at b3 hhi2
          rw [hs4] at b4 hlo2
          have H3 := Lib.hid hs3; have H4 := Lib.hid hs4
          clear hs3 hs4
          rcases Nat.eq_zero_or_pos k with h0 | h0
          · have d0 : decide (0 < k) = false := decide_eq_false (by omega)
            have d1 : decide ((0 : Int) < (k : Int)) = false := decide_eq_false (by omega)
            clear hlo2 h0
            go_wp2_with fail
            refine (lsum_any _ kk d2 (zs.take kk) r3 _ I3.out S3.out).mono ?_
            rw [H3.out]
            rintro e w' ⟨rfl, rfl⟩
            go_wp2
            go_roundw
            case rel => exact ⟨j + 1, by omega, by go_num, by rw [E1.out _ rfl], by first | trivial | rfl⟩
            case measure => simp [intOf]; omega
          · have h2 := hlo2 h0
            have d0 : decide (0 < k) = true := decide_eq_true (by omega)
            have d1 : (0 : Int) < (k : Int) := by omega
            clear hlo2 h0
            go_wp2_with fail
            refine (lsum_any _ kk d2 (zs.take kk) r3 _ I3.out S3.out).mono ?_
            rw [H3.out]
            rintro e w' ⟨rfl, rfl⟩
            go_wp2_with fail
            refine (lsum_any _ k d2 (zs.take k) r4 _ I4.out S4.out).mono ?_
            rw [H4.out]
            rintro e w' ⟨rfl, rfl⟩
            go_wp2
            go_roundw
            case rel => exact ⟨j + 1, by omega, by go_num, by rw [E1.out _ rfl], by first | trivial | rfl⟩
            case measure => simp [intOf]; omega
      · obtain rfl : j = m1 := by omega
        go_wp2
        go_ret
        exact ⟨rfl, NN.out⟩
  · have hz : doneA ys zs = [] := by unfold doneA; rw [if_neg (fun h => hj (.inl h))]
    have HZ := Lib.hid hz
    have m0 : ¬ m1 = 0 := fun h => hj (.inr h)
    have mp : (1 : Int) ≤ (m1 : Int) := by omega
    have mb : ((0 : Int) != (m1 : Int)) = true := by simp; omega
    have mb2 : (0 != m1) = true := by simp; omega
    clear hz hj
    go_wp2_with fail
    refine (FinishFrames_ans ys zs B1 m1 d1 B2 m2 d2 _ I1.out I2.out (by omega) (by omega)).mono ?_
    rw [HZ.out]
    rintro e w2 ⟨A2, n2, c2, rfl, l2, r2, N2a⟩
    have s2 := N2a.le
    have I1 := Lib.hid (I1.out.new N2a)
    have I2 := Lib.hid (I2.out.new N2a)
    have N2 := Lib.hid (N1.out.trans N2a); clear N2a
    obtain rfl : 0 = n2 := by simpa using l2
    have R2 := Lib.hid r2; clear l2 r2
    go_wp2_with fail
    refine (SFinishFrames_ans ys zs B1 m1 d1 B2 m2 d2 _ I1.out I2.out (by omega) (by omega)).mono ?_
    rw [HZ.out]
    rintro e w3 ⟨A3, n3, c3, rfl, l3, r3, N3a⟩
    have s3 := N3a.le
    have I1 := Lib.hid (I1.out.new N3a)
    have I2 := Lib.hid (I2.out.new N3a)
    have R2 := Lib.hid (R2.out.new N3a)
    have N3 := Lib.hid (N2.out.trans N3a); clear N3a
    obtain rfl : 0 = n3 := by simpa using l3
    have R3 := Lib.hid r3; clear l3 r3
    go_wp2_with fail
    refine (equalInts_any _ _ 0 0 _ _ [] [] (by omega) (by omega) _ (R2.out.ints rfl) (R3.out.ints rfl)).mono ?_
    rw [decide_eq_true rfl]
    rintro e w4 ⟨rfl, N4a⟩
    have s4 := N4a.le
    have I1 := Lib.hid (I1.out.new N4a)
    have I2 := Lib.hid (I2.out.new N4a)
    have R2 := Lib.hid (R2.out.new N4a)
    have R3 := Lib.hid (R3.out.new N4a)
    have N4 := Lib.hid (N3.out.trans N4a); clear N4a
    go_wp2_with fail
    refine (SFinishFrames_ans ys zs B1 m1 d1 B2 m2 d2 _ I1.out I2.out (by omega) (by omega)).mono ?_
    rw [HZ.out]
    rintro e w5 ⟨A5, n5, c5, rfl, l5, r5, N5a⟩
    have s5 := N5a.le
    have I1 := Lib.hid (I1.out.new N5a)
    have I2 := Lib.hid (I2.out.new N5a)
    have R2 := Lib.hid (R2.out.new N5a)
    have R3 := Lib.hid (R3.out.new N5a)
    have N5 := Lib.hid (N4.out.trans N5a); clear N5a
    obtain rfl : 0 = n5 := by simpa using l5
    have R5 := Lib.hid r5; clear l5 r5
    go_wp2_with fail
    refine (equalInts_any _ _ 0 0 _ _ [] [] (by omega) (by omega) _ (R2.out.ints rfl) (R5.out.ints rfl)).mono ?_
    rw [decide_eq_true rfl]
    rintro e w6 ⟨rfl, N6a⟩
    have s6 := N6a.le
    have I1 := Lib.hid (I1.out.new N6a)
    have I2 := Lib.hid (I2.out.new N6a)
    have R2 := Lib.hid (R2.out.new N6a)
    have R3 := Lib.hid (R3.out.new N6a)
    have R5 := Lib.hid (R5.out.new N6a)
    have N6 := Lib.hid (N5.out.trans N6a); clear N6a
    go_wp2
    go_ret
    exact ⟨rfl, N6.out⟩
end Go.Proofs.Ytehhdjkdncpjcaa
