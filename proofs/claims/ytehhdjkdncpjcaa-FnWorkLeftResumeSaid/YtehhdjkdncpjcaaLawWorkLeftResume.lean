/- The law FnWorkLeftResume, walked: what is left of what is left is what is left of all. Condition: the code can be read. -/
import Derived.Test.YtehhdjkdncpjcaaDrawFr
import Derived.Test.YtehhdjkdncpjcaaFrameE
namespace Go.Proofs.Ytehhdjkdncpjcaa
open Go.RowKit

set_option maxRecDepth 100000 in
set_option maxHeartbeats 4000000 in
theorem lawWorkLeftResume (A : Option Addr) (n c : Nat) (hn : n ≤ maxLen) (hnc : n ≤ c) (w : World) (hb : Bytes w A n) :
    Calls Try.prog 11 #[.slice A n c] w fun e w' => e = .returned (.bool true) ∧ New w w' := by
  have HB := Lib.hid hb; have HM := Lib.hid hn
  clear hb
  unfold maxLen at hn
  by_cases hbig : 1048576 < n
  · go_enter Try.func11, Try.ntmps11
    go_wp2
    go_ret
    exact ⟨rfl, by (repeat (first | exact New.refl _ | assumption | refine New.alloc ?_ _ | refine New.drew ?_ | refine New.drewN ?_ _ | refine New.setCell ?_ (by first | omega | (simp; omega) | (simp; done)) _ | refine New.trans ?_ (by assumption)))⟩
  have hm : (n : Int) ≤ 1048576 := by omega
  have hm0 : (0 : Int) ≤ (n : Int) := by omega
  go_enter Try.func11, Try.ntmps11
  go_wp2_with fail
  refine (DrawWorkLeft_any A n c HM.out hnc _ HB.out).mono ?_
  rintro e w1 ⟨B1, m1, d1, ys, B2, m2, d2, zs, rfl, I1, I2, l1, l2, S1, S2, ⟨_, kd⟩, ⟨_, PC⟩, N1a⟩
  have s1 := N1a.le
  have N1 := Lib.hid ((New.refl w).trans N1a); clear N1a
  replace I1 := Lib.hid I1
  replace I2 := Lib.hid I2
  have LY := Lib.hid I1.out.len; have LZ2 := Lib.hid I2.out.len
  replace S1 := Lib.hid S1; replace S2 := Lib.hid S2
  by_cases hz : remA ys zs = []
  · have HZ := Lib.hid hz
    clear hz
    go_wp2_with fail
    refine (WorkLeft_ans ys zs B1 m1 d1 B2 m2 d2 _ I1.out I2.out (by omega) (by omega)).mono ?_
    rintro e w2 ⟨A2, n2, c2, rfl, l2, r2, N2a⟩
    have s2 := N2a.le
    have I1 := Lib.hid (I1.out.new N2a)
    have I2 := Lib.hid (I2.out.new N2a)
    have N2 := Lib.hid (N1.out.trans N2a); clear N2a
    rw [HZ.out] at l2 r2
    obtain rfl : 0 = n2 := by simpa using l2
    have R2 := Lib.hid r2; clear l2 r2
    go_wp2_with fail
    refine (SWorkLeft_ans ys zs B1 m1 d1 B2 m2 d2 _ I1.out I2.out (by omega) (by omega)).mono ?_
    rintro e w3 ⟨A3, n3, c3, rfl, l3, r3, N3a⟩
    have s3 := N3a.le
    have I1 := Lib.hid (I1.out.new N3a)
    have I2 := Lib.hid (I2.out.new N3a)
    have R2 := Lib.hid (R2.out.new N3a)
    have N3 := Lib.hid (N2.out.trans N3a); clear N3a
    rw [HZ.out] at l3 r3
    obtain rfl : 0 = n3 := by simpa using l3
    have R3 := Lib.hid r3; clear l3 r3
    go_wp2_with fail
    refine (equalInts_any _ _ 0 0 _ _ [] [] (by omega) (by omega) _ (R2.out.ints rfl) (R3.out.ints rfl)).mono ?_
    (rw [decide_eq_true rfl]; rintro e w4 ⟨rfl, N4a⟩)
    have s4 := N4a.le
    have I1 := Lib.hid (I1.out.new N4a)
    have I2 := Lib.hid (I2.out.new N4a)
    have R2 := Lib.hid (R2.out.new N4a)
    have R3 := Lib.hid (R3.out.new N4a)
    have N4 := Lib.hid (N3.out.trans N4a); clear N4a
    go_wp2_with fail
    refine (SWorkLeft_ans ys zs B1 m1 d1 B2 m2 d2 _ I1.out I2.out (by omega) (by omega)).mono ?_
    rintro e w5 ⟨A5, n5, c5, rfl, l5, r5, N5a⟩
    have s5 := N5a.le
    have I1 := Lib.hid (I1.out.new N5a)
    have I2 := Lib.hid (I2.out.new N5a)
    have R2 := Lib.hid (R2.out.new N5a)
    have R3 := Lib.hid (R3.out.new N5a)
    have N5 := Lib.hid (N4.out.trans N5a); clear N5a
    rw [HZ.out] at l5 r5
    obtain rfl : 0 = n5 := by simpa using l5
    have R5 := Lib.hid r5; clear l5 r5
    go_wp2_with fail
    refine (equalInts_any _ _ 0 0 _ _ [] [] (by omega) (by omega) _ (R2.out.ints rfl) (R5.out.ints rfl)).mono ?_
    (rw [decide_eq_true rfl]; rintro e w6 ⟨rfl, N6a⟩)
    have s6 := N6a.le
    have I1 := Lib.hid (I1.out.new N6a)
    have I2 := Lib.hid (I2.out.new N6a)
    have R2 := Lib.hid (R2.out.new N6a)
    have R3 := Lib.hid (R3.out.new N6a)
    have R5 := Lib.hid (R5.out.new N6a)
    have N6 := Lib.hid (N5.out.trans N6a); clear N6a
    go_wp2
    go_ret
    exact ⟨rfl, N6.out⟩
  · have zp : 0 < (remA ys zs).length := List.length_pos_iff.2 hz
    have zc := remA_len (cs := ys) (bs := zs)
    obtain ⟨nz, LZ⟩ : ∃ nz, Hid ((remA ys zs).length = nz) := ⟨_, Lib.hid rfl⟩
    have z1 : 1 ≤ nz := by have := LZ.out; omega
    have z8 : nz ≤ 1048576 := by have := LZ.out; omega
    have zi : (1 : Int) ≤ (nz : Int) := by omega
    have zj : (nz : Int) ≤ 1048576 := by omega
    have zb : ((nz : Int) == 0) = false := by simp; omega
    have NE := Lib.hid hz
    clear hz zp zc
    go_wp2_with fail
    refine (WorkLeft_ans ys zs B1 m1 d1 B2 m2 d2 _ I1.out I2.out (by omega) (by omega)).mono ?_
    rintro e w2 ⟨A2, n2, c2, rfl, l2, r2, N2a⟩
    have s2 := N2a.le
    have I1 := Lib.hid (I1.out.new N2a)
    have I2 := Lib.hid (I2.out.new N2a)
    have N2 := Lib.hid (N1.out.trans N2a); clear N2a
    obtain rfl : nz = n2 := by have := LZ.out; omega
    have R2 := Lib.hid r2; clear l2 r2
    go_wp2_with fail
    refine (SWorkLeft_ans ys zs B1 m1 d1 B2 m2 d2 _ I1.out I2.out (by omega) (by omega)).mono ?_
    rintro e w3 ⟨A3, n3, c3, rfl, l3, r3, N3a⟩
    have s3 := N3a.le
    have I1 := Lib.hid (I1.out.new N3a)
    have I2 := Lib.hid (I2.out.new N3a)
    have R2 := Lib.hid (R2.out.new N3a)
    have N3 := Lib.hid (N2.out.trans N3a); clear N3a
    obtain rfl : nz = n3 := by have := LZ.out; omega
    have R3 := Lib.hid r3; clear l3 r3
    go_wp2_with fail
    refine (equalInts_any _ _ nz nz _ _ _ _ (by omega) (by omega) _ (R2.out.ints LZ.out) (R3.out.ints LZ.out)).mono ?_
    (rw [decide_eq_true rfl]; rintro e w4 ⟨rfl, N4a⟩)
    have s4 := N4a.le
    have I1 := Lib.hid (I1.out.new N4a)
    have I2 := Lib.hid (I2.out.new N4a)
    have R2 := Lib.hid (R2.out.new N4a)
    have R3 := Lib.hid (R3.out.new N4a)
    have N4 := Lib.hid (N3.out.trans N4a); clear N4a
    have hok : jobsB ys zs = true := by
      have h := NE.out
      unfold remA at h
      by_cases hk : jobsB ys zs = true
      · exact hk
      · rw [if_neg hk] at h; exact absurd rfl h
    obtain ⟨jy, jz⟩ := jobsB_iff.1 hok
    have he : remA ys zs = remL ys zs.sum := by unfold remA; rw [if_pos hok]
    have nm : nz = m1 := by have h1 := LZ.out; have h2 := LY.out; rw [he, remL_len] at h1; omega
    have HE := Lib.hid he; have JY := Lib.hid jy; have JZ := Lib.hid jz
    have n12 : nz ≤ 12 := by have := jy.len; have := LY.out; omega
    subst nm
    obtain ⟨k2, hk2⟩ : ∃ k, k = m2 / 2 := ⟨_, rfl⟩
    have kl : k2 ≤ m2 := by omega
    have jt := jz.take k2
    have jd := jz.drop k2
    have p1 : remA ys (zs.take k2) = remL ys (zs.take k2).sum := by unfold remA; rw [if_pos (jobsB_iff.2 ⟨jy, jt⟩)]
    have p2 : remA (remL ys (zs.take k2).sum) (zs.drop k2) = remA ys zs := by
      rw [he]
      unfold remA
      rw [if_pos (jobsB_iff.2 ⟨rem_jobs jy, jd⟩), rem_rem jy jt.sum_bd.1 jd.sum_bd.1, ← List.sum_append, List.take_append_drop]
    have lp : (remL ys (zs.take k2).sum).length = nz := by rw [remL_len]; exact LY.out
    have P1 := Lib.hid p1; have P2 := Lib.hid p2; have LP := Lib.hid lp
    have m12 : (m2 : Int) ≤ 14 := by omega
    have m0 : (0 : Int) ≤ (m2 : Int) := by omega
    have iw : IntKind.i64.wrap ((m2 : Int).tdiv 2) = (k2 : Int) := by rw [Int.tdiv_eq_ediv_of_nonneg (by omega), IntWalk.i64_in _ (by omega)]; omega
    have iv : (m2 : Int) / 2 = (k2 : Int) := by omega
    have c0 : (0 : Int) ≤ (k2 : Int) := by omega
    have c1 : (k2 : Int) ≤ (m2 : Int) := by omega
    have c2 : (k2 : Int) ≤ (d2 : Int) := by omega
    have c3 : (m2 : Int) ≤ (d2 : Int) := by omega
    have n8 : nz ≤ 1048576 := by omega
    have kd2 : k2 ≤ d2 := by omega
    clear hok he jy jz p1 p2 lp jt jd
    rcases PC with PC | PC
    · obtain ⟨rfl, rfl⟩ := PC
      obtain rfl : k2 = 0 := by omega
      go_wp2_with fail
      refine (WorkLeft_ans ys (zs.take 0) B1 nz d1 _ _ _ _ I1.out (Ints.nothing (by have := LZ2.out; simp)) (by omega) (by omega)).mono ?_
      rw [P1.out]
      rintro e w5 ⟨A5, n5, c5, rfl, l5, r5, N5a⟩
      have s5 := N5a.le
      have I1 := Lib.hid (I1.out.new N5a)
      have I2 := Lib.hid (I2.out.new N5a)
      have R2 := Lib.hid (R2.out.new N5a)
      have R3 := Lib.hid (R3.out.new N5a)
      have N5 := Lib.hid (N4.out.trans N5a); clear N5a
      obtain rfl : nz = n5 := by have := LP.out; omega
      have R5 := Lib.hid r5; clear l5 r5
      go_wp2_with fail
      refine (WorkLeft_ans _ (zs.drop 0) A5 nz c5 _ _ _ _ (R5.out.ints LP.out) (Ints.nothing (by rw [List.length_drop]; have := LZ2.out; omega)) (by omega) (by omega)).mono ?_
      rw [P2.out]
      rintro e w6 ⟨A6, n6, c6, rfl, l6, r6, N6a⟩
      have s6 := N6a.le
      have I1 := Lib.hid (I1.out.new N6a)
      have I2 := Lib.hid (I2.out.new N6a)
      have R2 := Lib.hid (R2.out.new N6a)
      have R3 := Lib.hid (R3.out.new N6a)
      have R5 := Lib.hid (R5.out.new N6a)
      have N6 := Lib.hid (N5.out.trans N6a); clear N6a
      obtain rfl : nz = n6 := by have := LZ.out; omega
      have R6 := Lib.hid r6; clear l6 r6
      go_wp2_with fail
      refine (equalInts_any _ _ nz nz _ _ _ _ n8 n8 _ (R6.out.ints LZ.out) (R2.out.ints LZ.out)).mono ?_
      rw [decide_eq_true rfl]
      rintro e w7 ⟨rfl, N7a⟩
      have s7 := N7a.le
      have I1 := Lib.hid (I1.out.new N7a)
      have I2 := Lib.hid (I2.out.new N7a)
      have R2 := Lib.hid (R2.out.new N7a)
      have R3 := Lib.hid (R3.out.new N7a)
      have R5 := Lib.hid (R5.out.new N7a)
      have R6 := Lib.hid (R6.out.new N7a)
      have N7 := Lib.hid (N6.out.trans N7a); clear N7a
      go_wp2
      go_ret
      exact ⟨rfl, N7.out⟩
    · rcases Nat.eq_zero_or_pos m2 with rfl | hm2
      · obtain ⟨b, off, rfl⟩ := PC
        obtain rfl : k2 = 0 := by omega
        have ht : zs.take 0 = [] := rfl
        have P2b : Hid (remA (remL ys (zs.take 0).sum) (zs.drop 0) = remA ys zs) := P2
        go_wp2_with fail
        refine (WorkLeft_ans ys (zs.take 0) B1 nz d1 _ _ _ _ I1.out (Ints.nothing (by have := LZ2.out; simp)) (by omega) (by omega)).mono ?_
        rw [P1.out]
        rintro e w5 ⟨A5, n5, c5, rfl, l5, r5, N5a⟩
        have s5 := N5a.le
        have I1 := Lib.hid (I1.out.new N5a)
        have I2 := Lib.hid (I2.out.new N5a)
        have R2 := Lib.hid (R2.out.new N5a)
        have R3 := Lib.hid (R3.out.new N5a)
        have N5 := Lib.hid (N4.out.trans N5a); clear N5a
        obtain rfl : nz = n5 := by have := LP.out; omega
        have R5 := Lib.hid r5; clear l5 r5
        rcases Nat.eq_zero_or_pos d2 with rfl | hd2
        · skip
          go_wp2_with fail
          refine (WorkLeft_ans _ (zs.drop 0) A5 nz c5 _ _ _ _ (R5.out.ints LP.out) (Ints.nothing (by rw [List.length_drop]; have := LZ2.out; omega)) (by omega) (by omega)).mono ?_
          rw [P2.out]
          rintro e w6 ⟨A6, n6, c6, rfl, l6, r6, N6a⟩
          have s6 := N6a.le
          have I1 := Lib.hid (I1.out.new N6a)
          have I2 := Lib.hid (I2.out.new N6a)
          have R2 := Lib.hid (R2.out.new N6a)
          have R3 := Lib.hid (R3.out.new N6a)
          have R5 := Lib.hid (R5.out.new N6a)
          have N6 := Lib.hid (N5.out.trans N6a); clear N6a
          obtain rfl : nz = n6 := by have := LZ.out; omega
          have R6 := Lib.hid r6; clear l6 r6
          go_wp2_with fail
          refine (equalInts_any _ _ nz nz _ _ _ _ n8 n8 _ (R6.out.ints LZ.out) (R2.out.ints LZ.out)).mono ?_
          rw [decide_eq_true rfl]
          rintro e w7 ⟨rfl, N7a⟩
          have s7 := N7a.le
          have I1 := Lib.hid (I1.out.new N7a)
          have I2 := Lib.hid (I2.out.new N7a)
          have R2 := Lib.hid (R2.out.new N7a)
          have R3 := Lib.hid (R3.out.new N7a)
          have R5 := Lib.hid (R5.out.new N7a)
          have R6 := Lib.hid (R6.out.new N7a)
          have N7 := Lib.hid (N6.out.trans N7a); clear N7a
          go_wp2
          go_ret
          exact ⟨rfl, N7.out⟩
        · have hd3 : ¬ 0 = d2 := by omega
          have hd4 : (0 : Int) < (d2 : Int) := by omega
          go_wp2_with fail
          refine (WorkLeft_ans _ (zs.drop 0) A5 nz c5 _ _ _ _ (R5.out.ints LP.out) (Ints.nothing (by rw [List.length_drop]; have := LZ2.out; omega)) (by omega) (by omega)).mono ?_
          rw [P2.out]
          rintro e w6 ⟨A6, n6, c6, rfl, l6, r6, N6a⟩
          have s6 := N6a.le
          have I1 := Lib.hid (I1.out.new N6a)
          have I2 := Lib.hid (I2.out.new N6a)
          have R2 := Lib.hid (R2.out.new N6a)
          have R3 := Lib.hid (R3.out.new N6a)
          have R5 := Lib.hid (R5.out.new N6a)
          have N6 := Lib.hid (N5.out.trans N6a); clear N6a
          obtain rfl : nz = n6 := by have := LZ.out; omega
          have R6 := Lib.hid r6; clear l6 r6
          go_wp2_with fail
          refine (equalInts_any _ _ nz nz _ _ _ _ n8 n8 _ (R6.out.ints LZ.out) (R2.out.ints LZ.out)).mono ?_
          rw [decide_eq_true rfl]
          rintro e w7 ⟨rfl, N7a⟩
          have s7 := N7a.le
          have I1 := Lib.hid (I1.out.new N7a)
          have I2 := Lib.hid (I2.out.new N7a)
          have R2 := Lib.hid (R2.out.new N7a)
          have R3 := Lib.hid (R3.out.new N7a)
          have R5 := Lib.hid (R5.out.new N7a)
          have R6 := Lib.hid (R6.out.new N7a)
          have N7 := Lib.hid (N6.out.trans N7a); clear N7a
          go_wp2
          go_ret
          exact ⟨rfl, N7.out⟩
      · obtain ⟨b, off, rfl⟩ := PC
        have hne : ¬ k2 = d2 := by omega
        have hne2 : (k2 : Int) < (d2 : Int) := by omega
        clear hk2
        go_wp2_with fail
        refine (WorkLeft_ans ys (zs.take k2) B1 nz d1 _ _ _ _ I1.out (I2.out.take_ kl) (by omega) (by omega)).mono ?_
        rw [P1.out]
        rintro e w5 ⟨A5, n5, c5, rfl, l5, r5, N5a⟩
        have s5 := N5a.le
        have I1 := Lib.hid (I1.out.new N5a)
        have I2 := Lib.hid (I2.out.new N5a)
        have R2 := Lib.hid (R2.out.new N5a)
        have R3 := Lib.hid (R3.out.new N5a)
        have N5 := Lib.hid (N4.out.trans N5a); clear N5a
        obtain rfl : nz = n5 := by have := LP.out; omega
        have R5 := Lib.hid r5; clear l5 r5
        go_wp2_with fail
        refine (WorkLeft_ans _ (zs.drop k2) A5 nz c5 _ _ _ _ (R5.out.ints LP.out) (I2.out.drop_) (by omega) (by omega)).mono ?_
        rw [P2.out]
        rintro e w6 ⟨A6, n6, c6, rfl, l6, r6, N6a⟩
        have s6 := N6a.le
        have I1 := Lib.hid (I1.out.new N6a)
        have I2 := Lib.hid (I2.out.new N6a)
        have R2 := Lib.hid (R2.out.new N6a)
        have R3 := Lib.hid (R3.out.new N6a)
        have R5 := Lib.hid (R5.out.new N6a)
        have N6 := Lib.hid (N5.out.trans N6a); clear N6a
        obtain rfl : nz = n6 := by have := LZ.out; omega
        have R6 := Lib.hid r6; clear l6 r6
        go_wp2_with fail
        refine (equalInts_any _ _ nz nz _ _ _ _ n8 n8 _ (R6.out.ints LZ.out) (R2.out.ints LZ.out)).mono ?_
        rw [decide_eq_true rfl]
        rintro e w7 ⟨rfl, N7a⟩
        have s7 := N7a.le
        have I1 := Lib.hid (I1.out.new N7a)
        have I2 := Lib.hid (I2.out.new N7a)
        have R2 := Lib.hid (R2.out.new N7a)
        have R3 := Lib.hid (R3.out.new N7a)
        have R5 := Lib.hid (R5.out.new N7a)
        have R6 := Lib.hid (R6.out.new N7a)
        have N7 := Lib.hid (N6.out.trans N7a); clear N7a
        go_wp2
        go_ret
        exact ⟨rfl, N7.out⟩
end Go.Proofs.Ytehhdjkdncpjcaa
