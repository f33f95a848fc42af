/- The law FnTrackSizesMore, walked: one point of space more makes the sizes at most one point larger together. Condition: the code can be read. -/
import Derived.Test.YtcoddhlfhmelkaaDrawTk
import Derived.Test.YtcoddhlfhmelkaaTrkP
import Derived.Test.YtcoddhlfhmelkaaTrkI
import Derived.Test.YtcoddhlfhmelkaaTrkS
import Derived.Test.YtcoddhlfhmelkaaSpnM
namespace Go.Proofs.Ytcoddhlfhmelkaa
open Go.RowKit

set_option maxHeartbeats 4000000 in
theorem lawTrackSizesMore (A : Option Addr) (n c : Nat) (hn : n ≤ maxLen) (hnc : n ≤ c) (w : World) (hb : Bytes w A n) :
    Calls Try.prog 12 #[.slice A n c] w fun e w' => e = .returned (.bool true) ∧ New w w' := by
  have HB := Lib.hid hb; have HM := Lib.hid hn
  clear hb
  unfold maxLen at hn
  by_cases hbig : 1048576 < n
  · go_enter Try.func12, Try.ntmps12
    go_wp2
    go_ret
    exact ⟨rfl, by (repeat (first | exact New.refl _ | assumption | refine New.alloc ?_ _ | refine New.drew ?_ | refine New.drewN ?_ _ | refine New.setCell ?_ (by first | omega | (simp; omega) | (simp; done)) _ | refine New.trans ?_ (by assumption)))⟩
  have hm : (n : Int) ≤ 1048576 := by omega
  have hm0 : (0 : Int) ≤ (n : Int) := by omega
  go_enter Try.func12, Try.ntmps12
  go_wp2_with fail
  refine (DrawTrackSizes_any A n c HM.out hnc _ HB.out).mono ?_
  rintro e w1 ⟨B1, m1, d1, ys, sp, gp, rfl, I1, dc, l1, T1, sb, gb, N1a⟩
  have s1 := N1a.le
  have N1 := Lib.hid ((New.refl w).trans N1a); clear N1a
  replace I1 := Lib.hid I1
  have LY := Lib.hid I1.out.len
  have y0 : (0 : Int) ≤ (m1 : Int) := by omega
  have y1 : (m1 : Int) ≤ 9 := by omega
  clear T1 dc
  by_cases hz : tsA m1 ys sp gp = []
  · have HZ := Lib.hid hz
    clear hz
    go_wp2_with fail
    refine (TrackSizes_ans B1 m1 d1 ys sp gp (by omega) _ I1.out).mono ?_
    rintro e w2 ⟨A2, n2, c2, rfl, l2, r2, N2a⟩
    have s2 := N2a.le
    have I1 := Lib.hid (I1.out.new N2a)
    have N2 := Lib.hid (N1.out.trans N2a); clear N2a
    rw [HZ.out] at l2 r2
    obtain rfl : 0 = n2 := by simpa using l2
    have R2 := Lib.hid r2; clear l2 r2
    go_wp2_with fail
    refine (STrackSizes_ans B1 m1 d1 ys sp gp (by omega) _ I1.out).mono ?_
    rintro e w3 ⟨A3, n3, c3, rfl, l3, r3, N3a⟩
    have s3 := N3a.le
    have I1 := Lib.hid (I1.out.new N3a)
    have R2 := Lib.hid (R2.out.new N3a)
    have N3 := Lib.hid (N2.out.trans N3a); clear N3a
    rw [HZ.out] at l3 r3
    obtain rfl : 0 = n3 := by simpa using l3
    have R3 := Lib.hid r3; clear l3 r3
    go_wp2_with fail
    refine (equalInts_any _ _ 0 0 _ _ [] [] (by omega) (by omega) _ (R2.out.ints rfl) (R3.out.ints rfl)).mono ?_
    (rw [decide_eq_true rfl]; rintro e w4 ⟨rfl, N4a⟩)
    have s4 := N4a.le
    have I1 := Lib.hid (I1.out.new N4a)
    have R2 := Lib.hid (R2.out.new N4a)
    have R3 := Lib.hid (R3.out.new N4a)
    have N4 := Lib.hid (N3.out.trans N4a); clear N4a
    go_wp2_with fail
    refine (STrackSizes_ans B1 m1 d1 ys sp gp (by omega) _ I1.out).mono ?_
    rintro e w5 ⟨A5, n5, c5, rfl, l5, r5, N5a⟩
    have s5 := N5a.le
    have I1 := Lib.hid (I1.out.new N5a)
    have R2 := Lib.hid (R2.out.new N5a)
    have R3 := Lib.hid (R3.out.new N5a)
    have N5 := Lib.hid (N4.out.trans N5a); clear N5a
    rw [HZ.out] at l5 r5
    obtain rfl : 0 = n5 := by simpa using l5
    have R5 := Lib.hid r5; clear l5 r5
    go_wp2_with fail
    refine (equalInts_any _ _ 0 0 _ _ [] [] (by omega) (by omega) _ (R2.out.ints rfl) (R5.out.ints rfl)).mono ?_
    (rw [decide_eq_true rfl]; rintro e w6 ⟨rfl, N6a⟩)
    have s6 := N6a.le
    have I1 := Lib.hid (I1.out.new N6a)
    have R2 := Lib.hid (R2.out.new N6a)
    have R3 := Lib.hid (R3.out.new N6a)
    have R5 := Lib.hid (R5.out.new N6a)
    have N6 := Lib.hid (N5.out.trans N6a); clear N6a
    go_wp2
    go_ret
    exact ⟨rfl, N6.out⟩
  · have zp : 0 < (tsA m1 ys sp gp).length := List.length_pos_iff.2 hz
    have zc := tsA_len m1 ys sp gp
    obtain ⟨nz, LZ⟩ : ∃ nz, Hid ((tsA m1 ys sp gp).length = nz) := ⟨_, Lib.hid rfl⟩
    have z1 : 1 ≤ nz := by have := LZ.out; omega
    have z8 : nz ≤ 1048576 := by have := LZ.out; omega
    have zi : (1 : Int) ≤ (nz : Int) := by omega
    have zj : (nz : Int) ≤ 1048576 := by omega
    have zb : ((nz : Int) == 0) = false := by simp; omega
    have NE := Lib.hid hz
    clear hz zp zc
    go_wp2_with fail
    refine (TrackSizes_ans B1 m1 d1 ys sp gp (by omega) _ I1.out).mono ?_
    rintro e w2 ⟨A2, n2, c2, rfl, l2, r2, N2a⟩
    have s2 := N2a.le
    have I1 := Lib.hid (I1.out.new N2a)
    have N2 := Lib.hid (N1.out.trans N2a); clear N2a
    obtain rfl : nz = n2 := by have := LZ.out; omega
    have R2 := Lib.hid r2; clear l2 r2
    go_wp2_with fail
    refine (STrackSizes_ans B1 m1 d1 ys sp gp (by omega) _ I1.out).mono ?_
    rintro e w3 ⟨A3, n3, c3, rfl, l3, r3, N3a⟩
    have s3 := N3a.le
    have I1 := Lib.hid (I1.out.new N3a)
    have R2 := Lib.hid (R2.out.new N3a)
    have N3 := Lib.hid (N2.out.trans N3a); clear N3a
    obtain rfl : nz = n3 := by have := LZ.out; omega
    have R3 := Lib.hid r3; clear l3 r3
    go_wp2_with fail
    refine (equalInts_any _ _ nz nz _ _ _ _ (by omega) (by omega) _ (R2.out.ints LZ.out) (R3.out.ints LZ.out)).mono ?_
    (rw [decide_eq_true rfl]; rintro e w4 ⟨rfl, N4a⟩)
    have s4 := N4a.le
    have I1 := Lib.hid (I1.out.new N4a)
    have R2 := Lib.hid (R2.out.new N4a)
    have R3 := Lib.hid (R3.out.new N4a)
    have N4 := Lib.hid (N3.out.trans N4a); clear N4a
    have hok : tsOk m1 ys sp gp = true := by
      have h := NE.out
      unfold tsA at h
      by_cases hk : tsOk m1 ys sp gp = true
      · exact hk
      · rw [if_neg hk] at h; exact absurd rfl h
    have he : tsA m1 ys sp gp = tsL m1 ys sp gp := by unfold tsA; rw [if_pos hok]
    obtain rfl : nz = m1 := by have h1 := LZ.out; rw [he, tsL_len] at h1; omega
    obtain ⟨hv1, hs, hg⟩ := tsOk_iff.1 hok
    obtain ⟨hn8, hall⟩ := trsB_iff.1 hv1
    have OKV := Lib.hid hok
    by_cases h200 : sp = 200000
    · subst h200
      clear hok he hv1 hall hs
      go_wp2_with fail
      refine (STrackSizes_ans B1 nz d1 ys 200000 gp (by omega) _ I1.out).mono ?_
      rintro e w5 ⟨A5, n5, c5, rfl, l5, r5, N5a⟩
      have s5 := N5a.le
      have I1 := Lib.hid (I1.out.new N5a)
      have R2 := Lib.hid (R2.out.new N5a)
      have R3 := Lib.hid (R3.out.new N5a)
      have N5 := Lib.hid (N4.out.trans N5a); clear N5a
      obtain rfl : nz = n5 := by have := LZ.out; omega
      have R5 := Lib.hid r5; clear l5 r5
      go_wp2_with fail
      refine (equalInts_any _ _ nz nz _ _ _ _ (by omega) (by omega) _ (R2.out.ints LZ.out) (R5.out.ints LZ.out)).mono ?_
      (rw [decide_eq_true rfl]; rintro e w6 ⟨rfl, N6a⟩)
      have s6 := N6a.le
      have I1 := Lib.hid (I1.out.new N6a)
      have R2 := Lib.hid (R2.out.new N6a)
      have R3 := Lib.hid (R3.out.new N6a)
      have R5 := Lib.hid (R5.out.new N6a)
      have N6 := Lib.hid (N5.out.trans N6a); clear N6a
      go_wp2
      go_ret
      exact ⟨rfl, N6.out⟩
    · have hsb : (sp == 200000) = false := by simpa using h200
      have hm2 := tsL_more OKV.out (space := sp) (by omega)
      have hok2 : tsOk nz ys (sp + 1) gp = true := tsOk_iff.2 ⟨hv1, by omega, hg⟩
      have he2 : tsA nz ys (sp + 1) gp = tsL nz ys (sp + 1) gp := by unfold tsA; rw [if_pos hok2]
      rw [← he, ← he2] at hm2
      have LA : Hid ((tsA nz ys (sp + 1) gp).length = nz) := Lib.hid (by rw [he2, tsL_len])
      have SMA : ∀ sp, Hid (Sml (tsA nz ys sp gp)) := fun sp => Lib.hid (fun z hz => by
        obtain ⟨k, hk, rfl⟩ := List.getElem_of_mem hz
        have := tsA_bd nz ys sp gp k
        rw [show (tsA nz ys sp gp).getD k 0 = (tsA nz ys sp gp)[k] by simp [hk]] at this
        omega)
      have S0 := SMA sp; have S1 := SMA (sp + 1)
      have TB : 0 ≤ (tsA nz ys sp gp).sum ∧ (tsA nz ys sp gp).sum ≤ 2000000 := by
        have := sum_bd2 (tsA_bd nz ys sp gp) nz
        rw [List.take_of_length_le (by rw [LZ.out]; exact Nat.le_refl _)] at this
        omega
      obtain ⟨tb0, tb1⟩ := TB
      obtain ⟨hs0, hs1⟩ := hs
      clear hok he hv1 hall hok2 he2 SMA h200
      go_wp2_with fail
      refine (TrackSizes_ans B1 nz d1 ys (sp + 1) gp (by omega) _ I1.out).mono ?_
      rintro e w5 ⟨A5, n5, c5, rfl, l5, r5, N5a⟩
      have s5 := N5a.le
      have I1 := Lib.hid (I1.out.new N5a)
      have R2 := Lib.hid (R2.out.new N5a)
      have R3 := Lib.hid (R3.out.new N5a)
      have N5 := Lib.hid (N4.out.trans N5a); clear N5a
      obtain rfl : nz = n5 := by have := LA.out; omega
      have R5 := Lib.hid r5; clear l5 r5
      have CA := Lib.hid (lsum_any A5 nz c5 _ (by omega) w5 (R5.out.ints LA.out) S1.out)
      have CO := Lib.hid (lsum_any A2 nz c2 _ (by omega) w5 (R2.out.ints LZ.out) S0.out)
      generalize (tsA nz ys sp gp).sum = Z at *
      generalize (tsA nz ys (sp + 1) gp).sum = Y at *
      have cases2 : ((Y == Z) = true) ∨ ((Y == Z) = false ∧ (Y == Z + 1) = true) := by
        rcases hm2 with h | h
        · exact .inl (by simp [h])
        · exact .inr ⟨by simp; omega, by simp [h]⟩
      clear hm2
      rcases cases2 with q1 | ⟨q1, q2⟩
      all_goals
        go_wp2_with (first | (go_at_call 19; with_reducible refine CA.out.mono ?_; rintro e w' ⟨rfl, rfl⟩) | (go_at_call 19; with_reducible refine CO.out.mono ?_; rintro e w' ⟨rfl, rfl⟩))
        go_ret
        exact ⟨rfl, N5.out⟩
end Go.Proofs.Ytcoddhlfhmelkaa
