/- The law FnTrackSizesPart, walked: of two tracks with parts the one with the larger part is not smaller. Condition: the code can be read. -/
import Derived.Test.YtcoddhlfhmelkaaDrawTk
import Derived.Test.YtcoddhlfhmelkaaTrkP
import Derived.Test.YtcoddhlfhmelkaaTrkI
import Derived.Test.YtcoddhlfhmelkaaTrkS
import Derived.Test.YtcoddhlfhmelkaaSpnM
namespace Go.Proofs.Ytcoddhlfhmelkaa
open Go.RowKit

set_option maxHeartbeats 4000000 in
theorem lawTrackSizesPart (A : Option Addr) (n c : Nat) (hn : n ≤ maxLen) (hnc : n ≤ c) (w : World) (hb : Bytes w A n) :
    Calls Try.prog 9 #[.slice A n c] w fun e w' => e = .returned (.bool true) ∧ New w w' := by
  have HB := Lib.hid hb; have HM := Lib.hid hn
  clear hb
  unfold maxLen at hn
  by_cases hbig : 1048576 < n
  · go_enter Try.func9, Try.ntmps9
    go_wp2
    go_ret
    exact ⟨rfl, by (repeat (first | exact New.refl _ | assumption | refine New.alloc ?_ _ | refine New.drew ?_ | refine New.drewN ?_ _ | refine New.setCell ?_ (by first | omega | (simp; omega) | (simp; done)) _ | refine New.trans ?_ (by assumption)))⟩
  have hm : (n : Int) ≤ 1048576 := by omega
  have hm0 : (0 : Int) ≤ (n : Int) := by omega
  go_enter Try.func9, Try.ntmps9
  go_wp2_with fail
  refine (DrawTrackSizes_any A n c HM.out hnc _ HB.out).mono ?_
  rintro e w1 ⟨B1, m1, d1, ys, sp, gp, rfl, I1, dc, l1, T1, sb, gb, N1a⟩
  have s1 := N1a.le
  have N1 := Lib.hid ((New.refl w).trans N1a); clear N1a
  replace I1 := Lib.hid I1
  have LY := Lib.hid I1.out.len
  have y0 : (0 : Int) ≤ (m1 : Int) := by omega
  have y1 : (m1 : Int) ≤ 9 := by omega
  clear T1 dc
  by_cases hz : tsA m1 ys sp gp = []
  · have HZ := Lib.hid hz
    clear hz
    go_wp2_with fail
    refine (TrackSizes_ans B1 m1 d1 ys sp gp (by omega) _ I1.out).mono ?_
    rintro e w2 ⟨A2, n2, c2, rfl, l2, r2, N2a⟩
    have s2 := N2a.le
    have I1 := Lib.hid (I1.out.new N2a)
    have N2 := Lib.hid (N1.out.trans N2a); clear N2a
    rw [HZ.out] at l2 r2
    obtain rfl : 0 = n2 := by simpa using l2
    have R2 := Lib.hid r2; clear l2 r2
    go_wp2_with fail
    refine (STrackSizes_ans B1 m1 d1 ys sp gp (by omega) _ I1.out).mono ?_
    rintro e w3 ⟨A3, n3, c3, rfl, l3, r3, N3a⟩
    have s3 := N3a.le
    have I1 := Lib.hid (I1.out.new N3a)
    have R2 := Lib.hid (R2.out.new N3a)
    have N3 := Lib.hid (N2.out.trans N3a); clear N3a
    rw [HZ.out] at l3 r3
    obtain rfl : 0 = n3 := by simpa using l3
    have R3 := Lib.hid r3; clear l3 r3
    go_wp2_with fail
    refine (equalInts_any _ _ 0 0 _ _ [] [] (by omega) (by omega) _ (R2.out.ints rfl) (R3.out.ints rfl)).mono ?_
    (rw [decide_eq_true rfl]; rintro e w4 ⟨rfl, N4a⟩)
    have s4 := N4a.le
    have I1 := Lib.hid (I1.out.new N4a)
    have R2 := Lib.hid (R2.out.new N4a)
    have R3 := Lib.hid (R3.out.new N4a)
    have N4 := Lib.hid (N3.out.trans N4a); clear N4a
    rcases Nat.eq_zero_or_pos m1 with h0 | h0
    · subst h0
      have NN := Lib.hid N4.out
      go_wp2
      go_loopw [7] (fun i wr => i = .int .i64 0 ∧ wr = w4) (fun _ _ => 0)
      case atStart => exact ⟨rfl, rfl⟩
      case round =>
        obtain ⟨rfl, rfl⟩ := hrel
        go_wp2
        go_ret
        exact ⟨rfl, NN.out⟩
    · have h0i : ((0 : Int) == (m1 : Int)) = false := by simp; omega
      go_wp2_with fail
      refine (STrackSizes_ans B1 m1 d1 ys sp gp (by omega) _ I1.out).mono ?_
      rintro e w5 ⟨A5, n5, c5, rfl, l5, r5, N5a⟩
      have s5 := N5a.le
      have I1 := Lib.hid (I1.out.new N5a)
      have R2 := Lib.hid (R2.out.new N5a)
      have R3 := Lib.hid (R3.out.new N5a)
      have N5 := Lib.hid (N4.out.trans N5a); clear N5a
      rw [HZ.out] at l5 r5
      obtain rfl : 0 = n5 := by simpa using l5
      have R5 := Lib.hid r5; clear l5 r5
      go_wp2_with fail
      refine (equalInts_any _ _ 0 0 _ _ [] [] (by omega) (by omega) _ (R2.out.ints rfl) (R5.out.ints rfl)).mono ?_
      (rw [decide_eq_true rfl]; rintro e w6 ⟨rfl, N6a⟩)
      have s6 := N6a.le
      have I1 := Lib.hid (I1.out.new N6a)
      have R2 := Lib.hid (R2.out.new N6a)
      have R3 := Lib.hid (R3.out.new N6a)
      have R5 := Lib.hid (R5.out.new N6a)
      have N6 := Lib.hid (N5.out.trans N6a); clear N6a
      go_wp2
      go_ret
      exact ⟨rfl, N6.out⟩
  · have zp : 0 < (tsA m1 ys sp gp).length := List.length_pos_iff.2 hz
    have zc := tsA_len m1 ys sp gp
    obtain ⟨nz, LZ⟩ : ∃ nz, Hid ((tsA m1 ys sp gp).length = nz) := ⟨_, Lib.hid rfl⟩
    have z1 : 1 ≤ nz := by have := LZ.out; omega
    have z8 : nz ≤ 1048576 := by have := LZ.out; omega
    have zi : (1 : Int) ≤ (nz : Int) := by omega
    have zj : (nz : Int) ≤ 1048576 := by omega
    have zb : ((nz : Int) == 0) = false := by simp; omega
    have NE := Lib.hid hz
    clear hz zp zc
    go_wp2_with fail
    refine (TrackSizes_ans B1 m1 d1 ys sp gp (by omega) _ I1.out).mono ?_
    rintro e w2 ⟨A2, n2, c2, rfl, l2, r2, N2a⟩
    have s2 := N2a.le
    have I1 := Lib.hid (I1.out.new N2a)
    have N2 := Lib.hid (N1.out.trans N2a); clear N2a
    obtain rfl : nz = n2 := by have := LZ.out; omega
    have R2 := Lib.hid r2; clear l2 r2
    go_wp2_with fail
    refine (STrackSizes_ans B1 m1 d1 ys sp gp (by omega) _ I1.out).mono ?_
    rintro e w3 ⟨A3, n3, c3, rfl, l3, r3, N3a⟩
    have s3 := N3a.le
    have I1 := Lib.hid (I1.out.new N3a)
    have R2 := Lib.hid (R2.out.new N3a)
    have N3 := Lib.hid (N2.out.trans N3a); clear N3a
    obtain rfl : nz = n3 := by have := LZ.out; omega
    have R3 := Lib.hid r3; clear l3 r3
    go_wp2_with fail
    refine (equalInts_any _ _ nz nz _ _ _ _ (by omega) (by omega) _ (R2.out.ints LZ.out) (R3.out.ints LZ.out)).mono ?_
    (rw [decide_eq_true rfl]; rintro e w4 ⟨rfl, N4a⟩)
    have s4 := N4a.le
    have I1 := Lib.hid (I1.out.new N4a)
    have R2 := Lib.hid (R2.out.new N4a)
    have R3 := Lib.hid (R3.out.new N4a)
    have N4 := Lib.hid (N3.out.trans N4a); clear N4a
    have hok : tsOk m1 ys sp gp = true := by
      have h := NE.out
      unfold tsA at h
      by_cases hk : tsOk m1 ys sp gp = true
      · exact hk
      · rw [if_neg hk] at h; exact absurd rfl h
    have he : tsA m1 ys sp gp = tsL m1 ys sp gp := by unfold tsA; rw [if_pos hok]
    obtain rfl : nz = m1 := by have h1 := LZ.out; rw [he, tsL_len] at h1; omega
    obtain ⟨hv1, hs, hg⟩ := tsOk_iff.1 hok
    obtain ⟨hn8, hall⟩ := trsB_iff.1 hv1
    have OKV := Lib.hid hok
    obtain ⟨b, off, rfl, hb, hc⟩ := I1.out.at_ (by omega)
    obtain ⟨b', off', e', hb', hc'⟩ := (R2.out.ints LZ.out).at_ (by omega)
    subst e'
    have HC := Lib.hid hc; have HC' := Lib.hid hc'
    have NN := Lib.hid N4.out
    have PM := Lib.hid (fun i j (hi : i < nz) (hj : j < nz) (hp : 0 < ys.getD (j * 2 + 1) 0) (hq : ys.getD (j * 2 + 1) 0 < ys.getD (i * 2 + 1) 0) => (show (tsA nz ys sp gp).getD j 0 ≤ (tsA nz ys sp gp).getD i 0 by rw [he]; exact tsL_part OKV.out hi hj hp hq))
    clear hok he hv1 hall hc hc'
    go_wp2
    go_loopw [7] (fun i wr => ∃ j : Nat, j ≤ nz ∧ i = .int .i64 j ∧ ∃ q, wr = w4.drewN q) (fun i _ => nz - (intOf i).toNat)
    case atStart => exact ⟨0, Nat.zero_le _, rfl, 0, rfl⟩
    case round =>
      obtain ⟨i, hi, rfl, q, rfl⟩ := hrel
      have i0 : (0 : Int) ≤ (i : Int) := by omega
      by_cases hlt : i < nz
      · have i1 : (i : Int) < (nz : Int) := by omega
        have g1 : w4.cell? ⟨b', off' + i, none⟩ = some (.int .i64 ((tsA nz ys sp gp).getD i 0)) := HC'.out i hlt
        have g2 : w4.cell? ⟨b, off + i * 2 + 1, none⟩ = some (.int .i64 (ys.getD (i * 2 + 1) 0)) := HC.out (i * 2 + 1) (by omega)
        have PMi := Lib.hid (fun j hj => PM.out i j hlt hj)
        generalize (tsA nz ys sp gp).getD i 0 = oi at g1 PMi
        generalize ys.getD (i * 2 + 1) 0 = pi at g2 PMi
        go_wp2
        go_loopw [8] (fun i wr => ∃ j : Nat, j ≤ nz ∧ i = .int .i64 j ∧ ∃ q, wr = w4.drewN q) (fun i _ => nz - (intOf i).toNat)
        case atStart => exact ⟨0, Nat.zero_le _, rfl, q, rfl⟩
        case round =>
          obtain ⟨j, hj, rfl, q2, rfl⟩ := hrel
          have j0 : (0 : Int) ≤ (j : Int) := by omega
          by_cases hlt2 : j < nz
          · have j1 : (j : Int) < (nz : Int) := by omega
            have g3 : w4.cell? ⟨b', off' + j, none⟩ = some (.int .i64 ((tsA nz ys sp gp).getD j 0)) := HC'.out j hlt2
            have g4 : w4.cell? ⟨b, off + j * 2 + 1, none⟩ = some (.int .i64 (ys.getD (j * 2 + 1) 0)) := HC.out (j * 2 + 1) (by omega)
            have pm := PMi.out j hlt2
            generalize (tsA nz ys sp gp).getD j 0 = oj at g3 pm
            generalize ys.getD (j * 2 + 1) 0 = pj at g4 pm
            by_cases h1 : pj < pi
            · have d1 : decide (pi > pj) = true := decide_eq_true h1
              by_cases h2 : 0 < pj
              · have d2 : decide (pj > 0) = true := decide_eq_true h2
                have d3 : decide (oi < oj) = false := decide_eq_false (by have := pm h2 h1; omega)
                clear pm
                go_wp2
                go_quiet (fail)
                go_wp2
                go_roundw
                case rel => exact ⟨j + 1, by omega, by go_num, _, rfl⟩
                case measure => simp [intOf]; omega
              · have d2 : decide (pj > 0) = false := decide_eq_false h2
                clear pm
                go_wp2
                go_quiet (fail)
                go_wp2
                go_roundw
                case rel => exact ⟨j + 1, by omega, by go_num, _, rfl⟩
                case measure => simp [intOf]; omega
            · have d1 : decide (pi > pj) = false := decide_eq_false h1
              clear pm
              go_wp2
              go_quiet (fail)
              go_wp2
              go_roundw
              case rel => exact ⟨j + 1, by omega, by go_num, _, rfl⟩
              case measure => simp [intOf]; omega
          · obtain rfl : nz = j := by omega
            go_wp2
            go_roundw
            case rel => exact ⟨i + 1, by omega, by go_num, _, rfl⟩
            case measure => simp [intOf]; omega
      · obtain rfl : nz = i := by omega
        go_wp2
        go_ret
        exact ⟨rfl, NN.out.drewN q⟩
end Go.Proofs.Ytcoddhlfhmelkaa
