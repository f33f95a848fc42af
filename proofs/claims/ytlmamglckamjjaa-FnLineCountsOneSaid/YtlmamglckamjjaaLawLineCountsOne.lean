/- The law FnLineCountsOne, walked: for every code. Condition: the code can be read. -/
import Derived.Test.YtlmamglckamjjaaDrawPl
import Derived.Test.YtlmamglckamjjaaPrtC
import Derived.Test.YtlmamglckamjjaaPrtK
import Derived.Test.YtlmamglckamjjaaPrtN
namespace Go.Proofs.Ytlmamglckamjjaa
open Go.RowKit

set_option maxHeartbeats 4000000 in
theorem lawLineCountsOne (A : Option Addr) (n c : Nat) (hn : n ≤ maxLen) (hnc : n ≤ c) (w : World) (hb : Bytes w A n) :
    Calls Try.prog 14 #[.slice A n c] w fun e w' => e = .returned (.bool true) ∧ New w w' := by
  have HB := Lib.hid hb; have HM := Lib.hid hn
  clear hb
  unfold maxLen at hn
  by_cases hbig : 1048576 < n
  · go_enter Try.func14, Try.ntmps14
    go_wp2
    go_ret
    exact ⟨rfl, by (repeat (first | exact New.refl _ | assumption | refine New.alloc ?_ _ | refine New.drew ?_ | refine New.drewN ?_ _ | refine New.setCell ?_ (by first | omega | (simp; omega) | (simp; done)) _ | refine New.trans ?_ (by assumption)))⟩
  have hm : (n : Int) ≤ 1048576 := by omega
  have hm0 : (0 : Int) ≤ (n : Int) := by omega
  go_enter Try.func14, Try.ntmps14
  go_wp2_with fail
  refine (DrawLineCounts_any A n c HM.out hnc _ HB.out).mono ?_
  rintro e w1 ⟨B1, m1, d1, ys, wd, gp, rfl, I1, dc, l1, T1, wb, gb, N1a⟩
  have s1 := N1a.le
  have N1 := Lib.hid ((New.refl w).trans N1a); clear N1a
  replace I1 := Lib.hid I1
  have y0 : (0 : Int) ≤ (m1 : Int) := by omega
  have y1 : (m1 : Int) ≤ 13 := by omega
  clear T1
  by_cases hz : lcA ys m1 wd gp = []
  · have HZ := Lib.hid hz
    clear hz
    go_wp2_with fail
    refine (LineCounts_any B1 m1 d1 ys wd gp (by omega) dc _ I1.out).mono ?_
    rintro e w2 ⟨A2, n2, c2, rfl, l2, r2, N2a⟩
    have s2 := N2a.le
    have I1 := Lib.hid (I1.out.new N2a)
    have N2 := Lib.hid (N1.out.trans N2a); clear N2a
    rw [HZ.out] at l2 r2
    obtain rfl : 0 = n2 := by simpa using l2
    have R2 := Lib.hid r2; clear l2 r2
    go_wp2_with fail
    refine (SLineCounts_ans B1 m1 d1 ys wd gp (by omega) _ I1.out).mono ?_
    rintro e w3 ⟨A3, n3, c3, rfl, l3, r3, N3a⟩
    have s3 := N3a.le
    have I1 := Lib.hid (I1.out.new N3a)
    have R2 := Lib.hid (R2.out.new N3a)
    have N3 := Lib.hid (N2.out.trans N3a); clear N3a
    rw [HZ.out] at l3 r3
    obtain rfl : 0 = n3 := by simpa using l3
    have R3 := Lib.hid r3; clear l3 r3
    go_wp2_with fail
    refine (equalInts_any _ _ 0 0 _ _ [] [] (by omega) (by omega) _ (R2.out.ints rfl) (R3.out.ints rfl)).mono ?_
    (rw [decide_eq_true rfl]; rintro e w4 ⟨rfl, N4a⟩)
    have s4 := N4a.le
    have I1 := Lib.hid (I1.out.new N4a)
    have R2 := Lib.hid (R2.out.new N4a)
    have R3 := Lib.hid (R3.out.new N4a)
    have N4 := Lib.hid (N3.out.trans N4a); clear N4a
    go_wp2_with fail
    refine (SLineCounts_ans B1 m1 d1 ys wd gp (by omega) _ I1.out).mono ?_
    rintro e w5 ⟨A5, n5, c5, rfl, l5, r5, N5a⟩
    have s5 := N5a.le
    have I1 := Lib.hid (I1.out.new N5a)
    have R2 := Lib.hid (R2.out.new N5a)
    have R3 := Lib.hid (R3.out.new N5a)
    have N5 := Lib.hid (N4.out.trans N5a); clear N5a
    rw [HZ.out] at l5 r5
    obtain rfl : 0 = n5 := by simpa using l5
    have R5 := Lib.hid r5; clear l5 r5
    go_wp2_with fail
    refine (equalInts_any _ _ 0 0 _ _ [] [] (by omega) (by omega) _ (R2.out.ints rfl) (R5.out.ints rfl)).mono ?_
    (rw [decide_eq_true rfl]; rintro e w6 ⟨rfl, N6a⟩)
    have s6 := N6a.le
    have I1 := Lib.hid (I1.out.new N6a)
    have R2 := Lib.hid (R2.out.new N6a)
    have R3 := Lib.hid (R3.out.new N6a)
    have R5 := Lib.hid (R5.out.new N6a)
    have N6 := Lib.hid (N5.out.trans N6a); clear N6a
    go_wp2
    go_ret
    exact ⟨rfl, N6.out⟩
  · have zp : 0 < (lcA ys m1 wd gp).length := List.length_pos_iff.2 hz
    have zc := lcA_len (zs := ys) (n := m1) (wd := wd) (gap := gp)
    obtain ⟨nz, LZ⟩ : ∃ nz, Hid ((lcA ys m1 wd gp).length = nz) := ⟨_, Lib.hid rfl⟩
    have z1 : 1 ≤ nz := by have := LZ.out; omega
    have z8 : nz ≤ 1048576 := by have := LZ.out; omega
    have zi : (1 : Int) ≤ (nz : Int) := by omega
    have zj : (nz : Int) ≤ 1048576 := by omega
    have zb : ((nz : Int) == 0) = false := by simp; omega
    have NE := Lib.hid hz
    clear hz zp zc
    go_wp2_with fail
    refine (LineCounts_any B1 m1 d1 ys wd gp (by omega) dc _ I1.out).mono ?_
    rintro e w2 ⟨A2, n2, c2, rfl, l2, r2, N2a⟩
    have s2 := N2a.le
    have I1 := Lib.hid (I1.out.new N2a)
    have N2 := Lib.hid (N1.out.trans N2a); clear N2a
    obtain rfl : nz = n2 := by have := LZ.out; omega
    have R2 := Lib.hid r2; clear l2 r2
    go_wp2_with fail
    refine (SLineCounts_ans B1 m1 d1 ys wd gp (by omega) _ I1.out).mono ?_
    rintro e w3 ⟨A3, n3, c3, rfl, l3, r3, N3a⟩
    have s3 := N3a.le
    have I1 := Lib.hid (I1.out.new N3a)
    have R2 := Lib.hid (R2.out.new N3a)
    have N3 := Lib.hid (N2.out.trans N3a); clear N3a
    obtain rfl : nz = n3 := by have := LZ.out; omega
    have R3 := Lib.hid r3; clear l3 r3
    go_wp2_with fail
    refine (equalInts_any _ _ nz nz _ _ _ _ (by omega) (by omega) _ (R2.out.ints LZ.out) (R3.out.ints LZ.out)).mono ?_
    (rw [decide_eq_true rfl]; rintro e w4 ⟨rfl, N4a⟩)
    have s4 := N4a.le
    have I1 := Lib.hid (I1.out.new N4a)
    have R2 := Lib.hid (R2.out.new N4a)
    have R3 := Lib.hid (R3.out.new N4a)
    have N4 := Lib.hid (N3.out.trans N4a); clear N4a
    have hok : wrOk ys m1 wd gp = true := by
      have h := NE.out
      cases hk : wrOk ys m1 wd gp
      · rw [lcA, hk] at h; exact absurd rfl h
      · rfl
    have mp : 0 < m1 := by
      rcases Nat.eq_zero_or_pos m1 with rfl | h
      · exact absurd (by rw [lcA, if_pos hok]; rfl) NE.out
      · exact h
    obtain ⟨hv1, hw, hg⟩ := wrOk_iff.1 hok
    obtain ⟨b, off, rfl, hb, hc⟩ := I1.out.at_ mp
    have HC := Lib.hid hc
    have PB := Lib.hid (fun t (ht : t < m1) => (pr_bd hv1 ht).1.1)
    have LC := Lib.hid (fun (h : ∀ t, t < m1 → 0 < pw ys t) => lcA_one hok h)
    have NN := Lib.hid N4.out
    clear hc hok hv1 hw hg
    go_wp2
    go_loopw [7] (fun i wr => ∃ j : Nat, j ≤ m1 ∧ i = .int .i64 j ∧ Hid (∀ t, t < j → 0 < pw ys t) ∧ wr = w4) (fun i _ => m1 - (intOf i).toNat)
    case atStart => exact ⟨0, Nat.zero_le _, rfl, Lib.hid (fun t h => absurd h (Nat.not_lt_zero _)), rfl⟩
    case round =>
      obtain ⟨j, hj, rfl, HP, rfl⟩ := hrel
      have j0 : (0 : Int) ≤ (j : Int) := by omega
      by_cases hlt : j < m1
      · have j1 : (j : Int) < (m1 : Int) := by omega
        have g0 := HC.out (j * 2) (by omega)
        have p0 := PB.out j hlt
        have HP1 : Hid (ys.getD (j * 2) 0 ≠ 0 → ∀ t, t < j + 1 → 0 < pw ys t) := Lib.hid (fun h t ht => by
          rcases Nat.lt_or_ge t j with h1 | h1
          · exact HP.out t h1
          · obtain rfl : t = j := by omega
            have : pw ys t = ys.getD (t * 2) 0 := rfl
            omega)
        generalize ys.getD (j * 2) 0 = x at g0 HP1
        by_cases h0 : x = 0
        · subst h0
          go_wp2
          go_ret
          exact ⟨rfl, NN.out⟩
        · have hx0 : (x == 0) = false := by simpa using h0
          have HP2 := Lib.hid (HP1.out h0)
          go_wp2
          go_roundw
          case rel => exact ⟨j + 1, by omega, by go_num, HP2, trivial⟩
          case measure => simp [intOf]; omega
      · obtain rfl : j = m1 := by omega
        have lc := Lib.hid (LC.out HP.out)
        go_wp2_with (go_at_call 25; refine (LineCounts_any _ j d1 ys 0 gp (by omega) dc _ I1.out).mono ?_; rintro e w9 ⟨A9, n9, c9, rfl, l9, r9, N9⟩; (obtain rfl : n9 = j := by rw [← l9]; exact lc.out); have N9 := Lib.hid N9; clear l9 r9)
        go_ret
        exact ⟨by simp, NN.out.trans N9.out⟩
    
end Go.Proofs.Ytlmamglckamjjaa
