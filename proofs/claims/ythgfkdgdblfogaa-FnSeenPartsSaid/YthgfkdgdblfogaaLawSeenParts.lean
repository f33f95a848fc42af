/- The law FnSeenParts, walked: the parts that are seen are just those with points in the view. Condition: the code can be read. -/
import Derived.Test.YthgfkdgdblfogaaDrawSn
import Derived.Test.YthgfkdgdblfogaaSeenM
import Derived.Test.YthgfkdgdblfogaaIsIn
import Derived.IntWalk
namespace Go.Proofs.Ythgfkdgdblfogaa
open Go.RowKit

set_option maxHeartbeats 4000000 in
theorem lawSeenParts (A : Option Addr) (n c : Nat) (hn : n ≤ maxLen) (hnc : n ≤ c) (w : World) (hb : Bytes w A n) :
    Calls Try.prog 4 #[.slice A n c] w fun e w' => e = .returned (.bool true) ∧ New w w' := by
  have HB := Lib.hid hb; have HM := Lib.hid hn
  clear hb
  unfold maxLen at hn
  by_cases hbig : 1048576 < n
  · go_enter Try.func4, Try.ntmps4
    go_wp2
    go_ret
    exact ⟨rfl, by (repeat (first | exact New.refl _ | assumption | refine New.alloc ?_ _ | refine New.drew ?_ | refine New.drewN ?_ _ | refine New.setCell ?_ (by first | omega | (simp; omega) | (simp; done)) _ | refine New.trans ?_ (by assumption)))⟩
  have hm : (n : Int) ≤ 1048576 := by omega
  have hm0 : (0 : Int) ≤ (n : Int) := by omega
  go_enter Try.func4, Try.ntmps4
  go_wp2_with fail
  refine (DrawSeenParts_any A n c HM.out hnc _ HB.out).mono ?_
  rintro e w1 ⟨B1, m1, d1, ys, vw, at0, rfl, I1, l1, S1, vb, ab, N1a⟩
  have s1 := N1a.le
  have N1 := Lib.hid ((New.refl w).trans N1a); clear N1a
  replace I1 := Lib.hid I1
  have LY := Lib.hid I1.out.len
  have y0 : (0 : Int) ≤ (m1 : Int) := by omega
  have y1 : (m1 : Int) ≤ 10 := by omega
  replace S1 := Lib.hid S1
  obtain ⟨vb0, vb1⟩ := vb
  obtain ⟨ab0, ab1⟩ := ab
  by_cases hz : snA ys vw at0 = []
  · have HZ := Lib.hid hz
    clear hz
    go_wp2_with fail
    refine (SeenParts_ans B1 m1 d1 ys vw at0 (by omega) _ I1.out).mono ?_
    rintro e w2 ⟨A2, n2, c2, rfl, l2, r2, N2a⟩
    have s2 := N2a.le
    have I1 := Lib.hid (I1.out.new N2a)
    have N2 := Lib.hid (N1.out.trans N2a); clear N2a
    rw [HZ.out] at l2 r2
    obtain rfl : 0 = n2 := by simpa using l2
    have R2 := Lib.hid r2; clear l2 r2
    go_wp2_with fail
    refine (SSeenParts_ans B1 m1 d1 ys vw at0 (by omega) _ I1.out).mono ?_
    rintro e w3 ⟨A3, n3, c3, rfl, l3, r3, N3a⟩
    have s3 := N3a.le
    have I1 := Lib.hid (I1.out.new N3a)
    have R2 := Lib.hid (R2.out.new N3a)
    have N3 := Lib.hid (N2.out.trans N3a); clear N3a
    rw [HZ.out] at l3 r3
    obtain rfl : 0 = n3 := by simpa using l3
    have R3 := Lib.hid r3; clear l3 r3
    go_wp2_with fail
    refine (equalInts_any _ _ 0 0 _ _ [] [] (by omega) (by omega) _ (R2.out.ints rfl) (R3.out.ints rfl)).mono ?_
    (rw [decide_eq_true rfl]; rintro e w4 ⟨rfl, N4a⟩)
    have s4 := N4a.le
    have I1 := Lib.hid (I1.out.new N4a)
    have R2 := Lib.hid (R2.out.new N4a)
    have R3 := Lib.hid (R3.out.new N4a)
    have N4 := Lib.hid (N3.out.trans N4a); clear N4a
    go_wp2_with fail
    refine (SSeenParts_ans B1 m1 d1 ys vw at0 (by omega) _ I1.out).mono ?_
    rintro e w5 ⟨A5, n5, c5, rfl, l5, r5, N5a⟩
    have s5 := N5a.le
    have I1 := Lib.hid (I1.out.new N5a)
    have R2 := Lib.hid (R2.out.new N5a)
    have R3 := Lib.hid (R3.out.new N5a)
    have N5 := Lib.hid (N4.out.trans N5a); clear N5a
    rw [HZ.out] at l5 r5
    obtain rfl : 0 = n5 := by simpa using l5
    have R5 := Lib.hid r5; clear l5 r5
    go_wp2_with fail
    refine (equalInts_any _ _ 0 0 _ _ [] [] (by omega) (by omega) _ (R2.out.ints rfl) (R5.out.ints rfl)).mono ?_
    (rw [decide_eq_true rfl]; rintro e w6 ⟨rfl, N6a⟩)
    have s6 := N6a.le
    have I1 := Lib.hid (I1.out.new N6a)
    have R2 := Lib.hid (R2.out.new N6a)
    have R3 := Lib.hid (R3.out.new N6a)
    have R5 := Lib.hid (R5.out.new N6a)
    have N6 := Lib.hid (N5.out.trans N6a); clear N6a
    go_wp2
    go_ret
    exact ⟨rfl, N6.out⟩
  · have zp : 0 < (snA ys vw at0).length := List.length_pos_iff.2 hz
    have zc := snA_len (xs := ys) (view := vw) (at_ := at0)
    obtain ⟨nz, LZ⟩ : ∃ nz, Hid ((snA ys vw at0).length = nz) := ⟨_, Lib.hid rfl⟩
    have z1 : 1 ≤ nz := by have := LZ.out; omega
    have z8 : nz ≤ 1048576 := by have := LZ.out; omega
    have zi : (1 : Int) ≤ (nz : Int) := by omega
    have zj : (nz : Int) ≤ 1048576 := by omega
    have zb : ((nz : Int) == 0) = false := by simp; omega
    have NE := Lib.hid hz
    clear hz zp zc
    go_wp2_with fail
    refine (SeenParts_ans B1 m1 d1 ys vw at0 (by omega) _ I1.out).mono ?_
    rintro e w2 ⟨A2, n2, c2, rfl, l2, r2, N2a⟩
    have s2 := N2a.le
    have I1 := Lib.hid (I1.out.new N2a)
    have N2 := Lib.hid (N1.out.trans N2a); clear N2a
    obtain rfl : nz = n2 := by have := LZ.out; omega
    have R2 := Lib.hid r2; clear l2 r2
    go_wp2_with fail
    refine (SSeenParts_ans B1 m1 d1 ys vw at0 (by omega) _ I1.out).mono ?_
    rintro e w3 ⟨A3, n3, c3, rfl, l3, r3, N3a⟩
    have s3 := N3a.le
    have I1 := Lib.hid (I1.out.new N3a)
    have R2 := Lib.hid (R2.out.new N3a)
    have N3 := Lib.hid (N2.out.trans N3a); clear N3a
    obtain rfl : nz = n3 := by have := LZ.out; omega
    have R3 := Lib.hid r3; clear l3 r3
    go_wp2_with fail
    refine (equalInts_any _ _ nz nz _ _ _ _ (by omega) (by omega) _ (R2.out.ints LZ.out) (R3.out.ints LZ.out)).mono ?_
    (rw [decide_eq_true rfl]; rintro e w4 ⟨rfl, N4a⟩)
    have s4 := N4a.le
    have I1 := Lib.hid (I1.out.new N4a)
    have R2 := Lib.hid (R2.out.new N4a)
    have R3 := Lib.hid (R3.out.new N4a)
    have N4 := Lib.hid (N3.out.trans N4a); clear N4a
    have hok : snOk ys vw at0 = true := by
      have h := NE.out
      unfold snA at h
      by_cases hk : snOk ys vw at0 = true
      · exact hk
      · rw [if_neg hk] at h; exact absurd rfl h
    obtain ⟨⟨n8, hall⟩, hvw, hat⟩ := snOk_iff.1 hok
    have he : snA ys vw at0 = snTo ys vw at0 m1 := by unfold snA; rw [if_pos hok]; rw [LY.out]
    have HE := Lib.hid he; have HOK := Lib.hid hok; have HAL := Lib.hid hall
    obtain ⟨hvw0, hvw1⟩ := hvw
    obtain ⟨hat0, hat1⟩ := hat
    have TB := Lib.hid (fun k (hk : k ≤ m1) => take_bd hall (k := k) (by rw [LY.out]; exact hk))
    have TS := Lib.hid (fun k (hk : k < m1) => sum_snoc (zs := ys) (k := k) (by rw [LY.out]; exact hk))
    have IS := Lib.hid (fun k (hk : k < m1) => (show inL (snTo ys vw at0 m1) k = snB ys vw at0 k from snTo_in hk))
    have IR := Lib.hid (fun k W (hW : New w4 W) => isInL_any _ nz c2 k (snA ys vw at0) (by omega) W ((R2.out.ints LZ.out).new hW))
    rw [he] at IR
    obtain ⟨b, off, rfl, hb, hc⟩ := I1.out.at_ (by have := LZ.out; have h1 := snTo_len (xs := ys) (view := vw) (at_ := at0) (k := m1); rw [he] at this; omega)
    have HC := Lib.hid hc
    have NN := Lib.hid N4.out
    clear hok hall he hc n8
    go_wp2
    go_loopw [7, 8] (fun f x wr => ∃ j : Nat, j ≤ m1 ∧ x = .int .i64 j ∧ f = .int .i64 (ys.take j).sum ∧ Hid (New w4 wr)) (fun _ x _ => m1 - (intOf x).toNat)
    case atStart => exact ⟨0, Nat.zero_le _, rfl, by simp, Lib.hid (by (repeat (first | exact New.refl _ | assumption | refine New.alloc ?_ _ | refine New.drew ?_ | refine New.drewN ?_ _ | refine New.setCell ?_ (by first | omega | (simp; omega) | (simp; done)) _ | refine New.trans ?_ (by assumption))))⟩
    case round =>
      obtain ⟨j, hj, rfl, rfl, HW⟩ := hrel
      have j0 : (0 : Int) ≤ (j : Int) := by omega
      by_cases hlt : j < m1
      · have j1 : (j : Int) < (m1 : Int) := by omega
        have g0 := (HW.out.cells b _ hb).trans (HC.out j hlt)
        obtain ⟨s0, s1⟩ := TB.out j hj
        obtain ⟨s2, s3⟩ := TB.out (j + 1) hlt
        have TO := TS.out j hlt
        have IQ := IR.out j wr HW.out
        rw [IS.out j hlt] at IQ
        have hsn : snB ys vw at0 j = decide (mx (ys.take j).sum at0 < mn ((ys.take j).sum + ys.getD j 0) (at0 + vw)) := rfl
        rw [hsn] at IQ
        rw [TO] at s2 s3
        have TO := Lib.hid TO
        have hbw : b < wr.heap.size := Nat.lt_of_lt_of_le hb HW.out.le
        clear hsn
        generalize (ys.take j).sum = S at *
        generalize ys.getD j 0 = z at *
        have IQ := Lib.hid IQ
        by_cases c1 : 0 < z
        · by_cases c2 : 0 < vw
          · by_cases c3 : S < at0 + vw
            · by_cases c4 : at0 < S + z
              · have e : decide (mx S at0 < mn (S + z) (at0 + vw)) = true := decide_eq_true (by unfold mx mn; omega)
                have IT := Lib.hid (e ▸ IQ.out)
                clear e IQ
                go_wp2_with (go_at_call 23; refine IT.out.mono ?_; rintro e w' ⟨rfl, rfl⟩)
                go_roundw
                case rel => exact ⟨j + 1, by omega, by go_num, by rw [TO.out], HW⟩
                case measure => simp [intOf]; omega
              · have e : decide (mx S at0 < mn (S + z) (at0 + vw)) = false := decide_eq_false (by unfold mx mn; omega)
                have IT := Lib.hid (e ▸ IQ.out)
                clear e IQ
                go_wp2_with (go_at_call 23; refine IT.out.mono ?_; rintro e w' ⟨rfl, rfl⟩)
                go_roundw
                case rel => exact ⟨j + 1, by omega, by go_num, by rw [TO.out], HW⟩
                case measure => simp [intOf]; omega
            · have e : decide (mx S at0 < mn (S + z) (at0 + vw)) = false := decide_eq_false (by unfold mx mn; omega)
              have IT := Lib.hid (e ▸ IQ.out)
              clear e IQ
              go_wp2_with (go_at_call 23; refine IT.out.mono ?_; rintro e w' ⟨rfl, rfl⟩)
              go_roundw
              case rel => exact ⟨j + 1, by omega, by go_num, by rw [TO.out], HW⟩
              case measure => simp [intOf]; omega
          · have e : decide (mx S at0 < mn (S + z) (at0 + vw)) = false := decide_eq_false (by unfold mx mn; omega)
            have IT := Lib.hid (e ▸ IQ.out)
            clear e IQ
            go_wp2_with (go_at_call 23; refine IT.out.mono ?_; rintro e w' ⟨rfl, rfl⟩)
            go_roundw
            case rel => exact ⟨j + 1, by omega, by go_num, by rw [TO.out], HW⟩
            case measure => simp [intOf]; omega
        · have e : decide (mx S at0 < mn (S + z) (at0 + vw)) = false := decide_eq_false (by unfold mx mn; omega)
          have IT := Lib.hid (e ▸ IQ.out)
          clear e IQ
          go_wp2_with (go_at_call 23; refine IT.out.mono ?_; rintro e w' ⟨rfl, rfl⟩)
          go_roundw
          case rel => exact ⟨j + 1, by omega, by go_num, by rw [TO.out], HW⟩
          case measure => simp [intOf]; omega
      · obtain rfl : j = m1 := by omega
        go_wp2
        go_ret
        exact ⟨rfl, NN.out.trans HW.out⟩
end Go.Proofs.Ythgfkdgdblfogaa
