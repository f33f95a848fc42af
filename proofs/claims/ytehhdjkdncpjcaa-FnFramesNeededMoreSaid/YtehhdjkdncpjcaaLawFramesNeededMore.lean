/- The law FnFramesNeededMore, walked: larger budgets need no more frames, and only jobs that cost nothing need none. Condition: the code can be read. -/
import Derived.Test.YtehhdjkdncpjcaaDrawFr
import Derived.Test.YtehhdjkdncpjcaaFrameE
namespace Go.Proofs.Ytehhdjkdncpjcaa
open Go.RowKit

set_option maxHeartbeats 4000000 in
theorem lawFramesNeededMore (A : Option Addr) (n c : Nat) (hn : n ≤ maxLen) (hnc : n ≤ c) (w : World) (hb : Bytes w A n) :
    Calls Try.prog 13 #[.slice A n c] w fun e w' => e = .returned (.bool true) ∧ New w w' := by
  have HB := Lib.hid hb; have HM := Lib.hid hn
  clear hb
  unfold maxLen at hn
  by_cases hbig : 1048576 < n
  · go_enter Try.func13, Try.ntmps13
    go_wp2
    go_ret
    exact ⟨rfl, by (repeat (first | exact New.refl _ | assumption | refine New.alloc ?_ _ | refine New.drew ?_ | refine New.drewN ?_ _ | refine New.setCell ?_ (by first | omega | (simp; omega) | (simp; done)) _ | refine New.trans ?_ (by assumption)))⟩
  have hm : (n : Int) ≤ 1048576 := by omega
  have hm0 : (0 : Int) ≤ (n : Int) := by omega
  go_enter Try.func13, Try.ntmps13
  go_wp2_with fail
  refine (DrawFramesNeeded_any A n c HM.out hnc _ HB.out).mono ?_
  rintro e w1 ⟨B1, m1, d1, ys, b, rfl, I1, l1, S1, sb, N1a⟩
  have s1 := N1a.le
  have N1 := Lib.hid ((New.refl w).trans N1a); clear N1a
  replace I1 := Lib.hid I1
  replace S1 := Lib.hid S1
  by_cases hj : jobB ys = true ∧ 1 ≤ b ∧ b ≤ 1000
  · obtain ⟨hj, b0, b1⟩ := hj
    have jy := jobB_iff.1 hj
    obtain ⟨a0, a1⟩ := jy.sum_bd
    have e1 : needA ys b = (ys.sum + b - 1) / b := by unfold needA; rw [if_pos ⟨hj, b0, b1⟩]
    have v0 : 0 ≤ (ys.sum + b - 1) / b := Int.ediv_nonneg (by omega) (by omega)
    have v1 : (ys.sum + b - 1) / b ≤ ys.sum + b - 1 := Int.ediv_le_self _ (by omega)
    by_cases hb : b = 1000
    · subst hb
      obtain ⟨v, hv⟩ : ∃ v, (ys.sum + 1000 - 1) / 1000 = v := ⟨_, rfl⟩
      rw [hv] at e1 v0
      have E1 := Lib.hid e1
      clear hj jy e1 v1 hv a0 a1
      go_wp2_with fail
      refine (FramesNeeded_any ys 1000 B1 m1 d1 _ I1.out (by omega)).mono ?_
      rw [E1.out]
      rintro e w2 ⟨rfl, N2a⟩
      have s2 := N2a.le
      have I1 := Lib.hid (I1.out.new N2a)
      have N2 := Lib.hid (N1.out.trans N2a); clear N2a
      go_wp2_with fail
      refine (SFramesNeeded_any ys 1000 B1 m1 d1 _ I1.out (by omega)).mono ?_
      rw [E1.out]
      rintro e w3 ⟨rfl, N3a⟩
      have s3 := N3a.le
      have I1 := Lib.hid (I1.out.new N3a)
      have N3 := Lib.hid (N2.out.trans N3a); clear N3a
      go_wp2_with fail
      refine (SFramesNeeded_any ys 1000 B1 m1 d1 _ I1.out (by omega)).mono ?_
      rw [E1.out]
      rintro e w4 ⟨rfl, N4a⟩
      have s4 := N4a.le
      have I1 := Lib.hid (I1.out.new N4a)
      have N4 := Lib.hid (N3.out.trans N4a); clear N4a
      go_wp2
      go_ret
      exact ⟨rfl, N4.out⟩
    · have e2 : needA ys (b + 1) = (ys.sum + (b + 1) - 1) / (b + 1) := by unfold needA; rw [if_pos ⟨hj, by omega, by omega⟩]
      have le := need_mono (s := ys.sum) (b := b) a0 b0
      have zz := need_zero (s := ys.sum) (b := b) a0 b0
      have hbb : (b == 1000) = false := by simpa using hb
      obtain ⟨sy, hsy⟩ : ∃ s, ys.sum = s := ⟨_, rfl⟩
      rw [hsy] at e1 e2 v0 v1 a0 a1 le zz
      obtain ⟨v, hv⟩ : ∃ v, (sy + b - 1) / b = v := ⟨_, rfl⟩
      obtain ⟨u, hu⟩ : ∃ v, (sy + (b + 1) - 1) / (b + 1) = v := ⟨_, rfl⟩
      rw [hv] at e1 v0 v1 le zz
      rw [hu] at e2 le
      have E1 := Lib.hid e1; have E2 := Lib.hid e2; have HY := Lib.hid hsy
      have FB : (sy = 0 ∧ v = 0) ∨ ((sy == 0) = false ∧ (v == 0) = false) := by
        by_cases h : sy = 0
        · exact .inl ⟨h, zz.2 h⟩
        · have : ¬ v = 0 := fun e => h (zz.1 e)
          exact .inr ⟨by simpa using h, by simpa using this⟩
      clear hj jy e1 e2 v1 hv hu hb zz hsy
      have m12 : m1 ≤ 100 := by omega
      rcases FB with FB | FB
      · obtain ⟨rfl, rfl⟩ := FB
        go_wp2_with fail
        refine (FramesNeeded_any ys b B1 m1 d1 _ I1.out (by omega)).mono ?_
        rw [E1.out]
        rintro e w2 ⟨rfl, N2a⟩
        have s2 := N2a.le
        have I1 := Lib.hid (I1.out.new N2a)
        have N2 := Lib.hid (N1.out.trans N2a); clear N2a
        go_wp2_with fail
        refine (SFramesNeeded_any ys b B1 m1 d1 _ I1.out (by omega)).mono ?_
        rw [E1.out]
        rintro e w3 ⟨rfl, N3a⟩
        have s3 := N3a.le
        have I1 := Lib.hid (I1.out.new N3a)
        have N3 := Lib.hid (N2.out.trans N3a); clear N3a
        go_wp2_with fail
        refine (FramesNeeded_any ys (b + 1) B1 m1 d1 _ I1.out (by omega)).mono ?_
        rw [E2.out]
        rintro e w4 ⟨rfl, N4a⟩
        have s4 := N4a.le
        have I1 := Lib.hid (I1.out.new N4a)
        have N4 := Lib.hid (N3.out.trans N4a); clear N4a
        go_wp2_with fail
        refine (lsum_any B1 m1 d1 ys (by omega) _ I1.out S1.out).mono ?_
        rw [HY.out]
        rintro e w' ⟨rfl, rfl⟩
        go_wp2
        go_ret
        exact ⟨rfl, N4.out⟩
      · obtain ⟨f1, f2⟩ := FB
        go_wp2_with fail
        refine (FramesNeeded_any ys b B1 m1 d1 _ I1.out (by omega)).mono ?_
        rw [E1.out]
        rintro e w2 ⟨rfl, N2a⟩
        have s2 := N2a.le
        have I1 := Lib.hid (I1.out.new N2a)
        have N2 := Lib.hid (N1.out.trans N2a); clear N2a
        go_wp2_with fail
        refine (SFramesNeeded_any ys b B1 m1 d1 _ I1.out (by omega)).mono ?_
        rw [E1.out]
        rintro e w3 ⟨rfl, N3a⟩
        have s3 := N3a.le
        have I1 := Lib.hid (I1.out.new N3a)
        have N3 := Lib.hid (N2.out.trans N3a); clear N3a
        go_wp2_with fail
        refine (FramesNeeded_any ys (b + 1) B1 m1 d1 _ I1.out (by omega)).mono ?_
        rw [E2.out]
        rintro e w4 ⟨rfl, N4a⟩
        have s4 := N4a.le
        have I1 := Lib.hid (I1.out.new N4a)
        have N4 := Lib.hid (N3.out.trans N4a); clear N4a
        go_wp2_with fail
        refine (lsum_any B1 m1 d1 ys (by omega) _ I1.out S1.out).mono ?_
        rw [HY.out]
        rintro e w' ⟨rfl, rfl⟩
        go_wp2
        go_ret
        exact ⟨rfl, N4.out⟩
  · have E1 : Hid (needA ys b = -1) := Lib.hid (by unfold needA; rw [if_neg hj])
    clear hj
    go_wp2_with fail
    refine (FramesNeeded_any ys b B1 m1 d1 _ I1.out (by omega)).mono ?_
    rw [E1.out]
    rintro e w2 ⟨rfl, N2a⟩
    have s2 := N2a.le
    have I1 := Lib.hid (I1.out.new N2a)
    have N2 := Lib.hid (N1.out.trans N2a); clear N2a
    go_wp2_with fail
    refine (SFramesNeeded_any ys b B1 m1 d1 _ I1.out (by omega)).mono ?_
    rw [E1.out]
    rintro e w3 ⟨rfl, N3a⟩
    have s3 := N3a.le
    have I1 := Lib.hid (I1.out.new N3a)
    have N3 := Lib.hid (N2.out.trans N3a); clear N3a
    go_wp2_with fail
    refine (SFramesNeeded_any ys b B1 m1 d1 _ I1.out (by omega)).mono ?_
    rw [E1.out]
    rintro e w4 ⟨rfl, N4a⟩
    have s4 := N4a.le
    have I1 := Lib.hid (I1.out.new N4a)
    have N4 := Lib.hid (N3.out.trans N4a); clear N4a
    go_wp2
    go_ret
    exact ⟨rfl, N4.out⟩
end Go.Proofs.Ytehhdjkdncpjcaa
