/- The law FnIdleTimeLeft, walked: nothing is left of the jobs, or nobody is idle; without jobs all is idle. Condition: the code can be read. -/
import Derived.Test.YteofjfglmngmnaaDrawFr
import Derived.Test.YteofjfglmngmnaaFrameZ
namespace Go.Proofs.Yteofjfglmngmnaa
open Go.RowKit

set_option maxHeartbeats 4000000 in
theorem lawIdleTimeLeft (A : Option Addr) (n c : Nat) (hn : n ≤ maxLen) (hnc : n ≤ c) (w : World) (hb : Bytes w A n) :
    Calls Try.prog 5 #[.slice A n c] w fun e w' => e = .returned (.bool true) ∧ New w w' := by
  have HB := Lib.hid hb; have HM := Lib.hid hn
  clear hb
  unfold maxLen at hn
  by_cases hbig : 1048576 < n
  · go_enter Try.func5, Try.ntmps5
    go_wp2
    go_ret
    exact ⟨rfl, by (repeat (first | exact New.refl _ | assumption | refine New.alloc ?_ _ | refine New.drew ?_ | refine New.drewN ?_ _ | refine New.setCell ?_ (by first | omega | (simp; omega) | (simp; done)) _ | refine New.trans ?_ (by assumption)))⟩
  have hm : (n : Int) ≤ 1048576 := by omega
  have hm0 : (0 : Int) ≤ (n : Int) := by omega
  go_enter Try.func5, Try.ntmps5
  go_wp2_with fail
  refine (DrawIdleTime_any A n c HM.out hnc _ HB.out).mono ?_
  rintro e w1 ⟨B1, m1, d1, ys, B2, m2, d2, zs, rfl, I1, I2, l1, l2, S1, S2, _, _, N1a⟩
  have s1 := N1a.le
  have N1 := Lib.hid ((New.refl w).trans N1a); clear N1a
  replace I1 := Lib.hid I1
  replace I2 := Lib.hid I2
  replace S1 := Lib.hid S1; replace S2 := Lib.hid S2
  have HL := Lib.hid I1.out.len; have HM2 := Lib.hid I2.out.len
  by_cases hj : jobsB ys zs = true
  · obtain ⟨jy, jz⟩ := jobsB_iff.1 hj
    obtain ⟨a0, a1⟩ := jy.sum_bd
    obtain ⟨b0, b1⟩ := jz.sum_bd
    have jn : Jobs [] := ⟨by simp, fun z h => absurd h (by simp)⟩
    have e1 : idleA ys zs = mx 0 (zs.sum - ys.sum) := by unfold idleA; rw [if_pos hj]
    have e4 : idleA [] zs = zs.sum := by unfold idleA; rw [if_pos (jobsB_iff.2 ⟨jn, jz⟩)]; unfold mx; simp; omega
    have e2 : (remA ys zs).sum = mx 0 (ys.sum - zs.sum) := by unfold remA; rw [if_pos hj, rem_sum jy b0]
    have e3 : (remA ys zs).length = m1 := by unfold remA; rw [if_pos hj, remL_len]; exact HL.out
    have SR : Hid (Sml (remA ys zs)) := Lib.hid (by unfold remA; rw [if_pos hj]; exact (rem_jobs jy).sml)
    obtain ⟨sy, hsy⟩ : ∃ s, ys.sum = s := ⟨_, rfl⟩
    obtain ⟨sz, hsz⟩ : ∃ s, zs.sum = s := ⟨_, rfl⟩
    obtain ⟨v, hv⟩ : ∃ s, mx 0 (sz - sy) = s := ⟨_, rfl⟩
    obtain ⟨r, hr⟩ : ∃ s, mx 0 (sy - sz) = s := ⟨_, rfl⟩
    rw [hsy] at a0 a1 e1 e2
    rw [hsz] at b0 b1 e1 e2 e4
    rw [hv] at e1
    rw [hr] at e2
    have fin : r = 0 ∨ ((r == 0) = false ∧ v = 0) := by
      by_cases h : r = 0
      · exact .inl h
      · exact .inr ⟨by simpa using h, by unfold mx at hv hr; omega⟩
    have v0 : 0 ≤ v ∧ v ≤ 12000 := by unfold mx at hv; omega
    have r0 : 0 ≤ r ∧ r ≤ 12000 := by unfold mx at hr; omega
    have E1 := Lib.hid e1; have E2 := Lib.hid e2; have E3 := Lib.hid e3; have E4 := Lib.hid e4; have HZ := Lib.hid hsz
    obtain ⟨v0, v1⟩ := v0
    obtain ⟨r0, r1⟩ := r0
    have m12 : m1 ≤ 12 := by have := jy.len; have := HL.out; omega
    clear jy jz jn hj e1 e2 e3 e4 hsy hsz hv hr
    rcases fin with rfl | ⟨f1, rfl⟩
    · skip
      go_wp2_with fail
      refine (IdleTime_any ys zs B1 m1 d1 B2 m2 d2 _ I1.out I2.out (by omega) (by omega)).mono ?_
      rw [E1.out]
      rintro e w2 ⟨rfl, N2a⟩
      have s2 := N2a.le
      have I1 := Lib.hid (I1.out.new N2a)
      have I2 := Lib.hid (I2.out.new N2a)
      have N2 := Lib.hid (N1.out.trans N2a); clear N2a
      go_wp2_with fail
      refine (SIdleTime_any ys zs B1 m1 d1 B2 m2 d2 _ I1.out I2.out (by omega) (by omega)).mono ?_
      rw [E1.out]
      rintro e w3 ⟨rfl, N3a⟩
      have s3 := N3a.le
      have I1 := Lib.hid (I1.out.new N3a)
      have I2 := Lib.hid (I2.out.new N3a)
      have N3 := Lib.hid (N2.out.trans N3a); clear N3a
      go_wp2_with fail
      refine (WorkLeft_ans ys zs B1 m1 d1 B2 m2 d2 _ I1.out I2.out (by omega) (by omega)).mono ?_
      rintro e w4 ⟨A4, n4, c4, rfl, l4, r4, N4a⟩
      have s4 := N4a.le
      have I1 := Lib.hid (I1.out.new N4a)
      have I2 := Lib.hid (I2.out.new N4a)
      have N4 := Lib.hid (N3.out.trans N4a); clear N4a
      obtain rfl : m1 = n4 := by have := E3.out; omega
      have R4 := Lib.hid r4; clear l4 r4
      go_wp2_with fail
      refine (lsum_any A4 m1 c4 _ (by omega) _ (R4.out.ints E3.out) SR.out).mono ?_
      rw [E2.out]
      rintro e w' ⟨rfl, rfl⟩
      go_wp2_with fail
      refine (IdleTime_any [] zs none 0 0 B2 m2 d2 _ (Ints.none_ _) I2.out (by omega) (by omega)).mono ?_
      rw [E4.out]
      rintro e w5 ⟨rfl, N5a⟩
      have s5 := N5a.le
      have I1 := Lib.hid (I1.out.new N5a)
      have I2 := Lib.hid (I2.out.new N5a)
      have R4 := Lib.hid (R4.out.new N5a)
      have N5 := Lib.hid (N4.out.trans N5a); clear N5a
      go_wp2_with fail
      refine (lsum_any B2 m2 d2 zs (by omega) _ I2.out S2.out).mono ?_
      rw [HZ.out]
      rintro e w' ⟨rfl, rfl⟩
      go_wp2
      go_ret
      exact ⟨rfl, N5.out⟩
    · skip
      go_wp2_with fail
      refine (IdleTime_any ys zs B1 m1 d1 B2 m2 d2 _ I1.out I2.out (by omega) (by omega)).mono ?_
      rw [E1.out]
      rintro e w2 ⟨rfl, N2a⟩
      have s2 := N2a.le
      have I1 := Lib.hid (I1.out.new N2a)
      have I2 := Lib.hid (I2.out.new N2a)
      have N2 := Lib.hid (N1.out.trans N2a); clear N2a
      go_wp2_with fail
      refine (SIdleTime_any ys zs B1 m1 d1 B2 m2 d2 _ I1.out I2.out (by omega) (by omega)).mono ?_
      rw [E1.out]
      rintro e w3 ⟨rfl, N3a⟩
      have s3 := N3a.le
      have I1 := Lib.hid (I1.out.new N3a)
      have I2 := Lib.hid (I2.out.new N3a)
      have N3 := Lib.hid (N2.out.trans N3a); clear N3a
      go_wp2_with fail
      refine (WorkLeft_ans ys zs B1 m1 d1 B2 m2 d2 _ I1.out I2.out (by omega) (by omega)).mono ?_
      rintro e w4 ⟨A4, n4, c4, rfl, l4, r4, N4a⟩
      have s4 := N4a.le
      have I1 := Lib.hid (I1.out.new N4a)
      have I2 := Lib.hid (I2.out.new N4a)
      have N4 := Lib.hid (N3.out.trans N4a); clear N4a
      obtain rfl : m1 = n4 := by have := E3.out; omega
      have R4 := Lib.hid r4; clear l4 r4
      go_wp2_with fail
      refine (lsum_any A4 m1 c4 _ (by omega) _ (R4.out.ints E3.out) SR.out).mono ?_
      rw [E2.out]
      rintro e w' ⟨rfl, rfl⟩
      go_wp2_with fail
      refine (IdleTime_any [] zs none 0 0 B2 m2 d2 _ (Ints.none_ _) I2.out (by omega) (by omega)).mono ?_
      rw [E4.out]
      rintro e w5 ⟨rfl, N5a⟩
      have s5 := N5a.le
      have I1 := Lib.hid (I1.out.new N5a)
      have I2 := Lib.hid (I2.out.new N5a)
      have R4 := Lib.hid (R4.out.new N5a)
      have N5 := Lib.hid (N4.out.trans N5a); clear N5a
      go_wp2_with fail
      refine (lsum_any B2 m2 d2 zs (by omega) _ I2.out S2.out).mono ?_
      rw [HZ.out]
      rintro e w' ⟨rfl, rfl⟩
      go_wp2
      go_ret
      exact ⟨rfl, N5.out⟩
  · have E1 : Hid (idleA ys zs = -1) := Lib.hid (by unfold idleA; rw [if_neg hj])
    clear hj
    go_wp2_with fail
    refine (IdleTime_any ys zs B1 m1 d1 B2 m2 d2 _ I1.out I2.out (by omega) (by omega)).mono ?_
    rw [E1.out]
    rintro e w2 ⟨rfl, N2a⟩
    have s2 := N2a.le
    have I1 := Lib.hid (I1.out.new N2a)
    have I2 := Lib.hid (I2.out.new N2a)
    have N2 := Lib.hid (N1.out.trans N2a); clear N2a
    go_wp2_with fail
    refine (SIdleTime_any ys zs B1 m1 d1 B2 m2 d2 _ I1.out I2.out (by omega) (by omega)).mono ?_
    rw [E1.out]
    rintro e w3 ⟨rfl, N3a⟩
    have s3 := N3a.le
    have I1 := Lib.hid (I1.out.new N3a)
    have I2 := Lib.hid (I2.out.new N3a)
    have N3 := Lib.hid (N2.out.trans N3a); clear N3a
    go_wp2_with fail
    refine (SIdleTime_any ys zs B1 m1 d1 B2 m2 d2 _ I1.out I2.out (by omega) (by omega)).mono ?_
    rw [E1.out]
    rintro e w4 ⟨rfl, N4a⟩
    have s4 := N4a.le
    have I1 := Lib.hid (I1.out.new N4a)
    have I2 := Lib.hid (I2.out.new N4a)
    have N4 := Lib.hid (N3.out.trans N4a); clear N4a
    go_wp2
    go_ret
    exact ⟨rfl, N4.out⟩
end Go.Proofs.Yteofjfglmngmnaa
