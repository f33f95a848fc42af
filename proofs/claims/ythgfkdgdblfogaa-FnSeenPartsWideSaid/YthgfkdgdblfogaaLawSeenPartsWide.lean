/- The law FnSeenPartsWide, walked: a wider view sees all that a view sees. Condition: the code can be read. -/
import Derived.Test.YthgfkdgdblfogaaDrawSn
import Derived.Test.YthgfkdgdblfogaaSeenW
import Derived.Test.YthgfkdgdblfogaaIsIn
import Derived.Test.YthgfkdgdblfogaaFlexE
import Derived.IntWalk
namespace Go.Proofs.Ythgfkdgdblfogaa
open Go.RowKit

set_option maxHeartbeats 4000000 in
theorem lawSeenPartsWide (A : Option Addr) (n c : Nat) (hn : n ≤ maxLen) (hnc : n ≤ c) (w : World) (hb : Bytes w A n) :
    Calls Try.prog 5 #[.slice A n c] w fun e w' => e = .returned (.bool true) ∧ New w w' := by
  have HB := Lib.hid hb; have HM := Lib.hid hn
  clear hb
  unfold maxLen at hn
  by_cases hbig : 1048576 < n
  · go_enter Try.func5, Try.ntmps5
    go_wp2
    go_ret
    exact ⟨rfl, by (repeat (first | exact New.refl _ | assumption | refine New.alloc ?_ _ | refine New.drew ?_ | refine New.drewN ?_ _ | refine New.setCell ?_ (by first | omega | (simp; omega) | (simp; done)) _ | refine New.trans ?_ (by assumption)))⟩
  have hm : (n : Int) ≤ 1048576 := by omega
  have hm0 : (0 : Int) ≤ (n : Int) := by omega
  go_enter Try.func5, Try.ntmps5
  go_wp2_with fail
  refine (DrawSeenParts_any A n c HM.out hnc _ HB.out).mono ?_
  rintro e w1 ⟨B1, m1, d1, ys, vw, at0, rfl, I1, l1, S1, vb, ab, N1a⟩
  have s1 := N1a.le
  have N1 := Lib.hid ((New.refl w).trans N1a); clear N1a
  replace I1 := Lib.hid I1
  have LY := Lib.hid I1.out.len
  have y0 : (0 : Int) ≤ (m1 : Int) := by omega
  have y1 : (m1 : Int) ≤ 10 := by omega
  replace S1 := Lib.hid S1
  obtain ⟨vb0, vb1⟩ := vb
  obtain ⟨ab0, ab1⟩ := ab
  by_cases hz : snA ys vw at0 = []
  · have HZ := Lib.hid hz
    clear hz
    go_wp2_with fail
    refine (SeenParts_ans B1 m1 d1 ys vw at0 (by omega) _ I1.out).mono ?_
    rintro e w2 ⟨A2, n2, c2, rfl, l2, r2, N2a⟩
    have s2 := N2a.le
    have I1 := Lib.hid (I1.out.new N2a)
    have N2 := Lib.hid (N1.out.trans N2a); clear N2a
    rw [HZ.out] at l2 r2
    obtain rfl : 0 = n2 := by simpa using l2
    have R2 := Lib.hid r2; clear l2 r2
    go_wp2_with fail
    refine (SSeenParts_ans B1 m1 d1 ys vw at0 (by omega) _ I1.out).mono ?_
    rintro e w3 ⟨A3, n3, c3, rfl, l3, r3, N3a⟩
    have s3 := N3a.le
    have I1 := Lib.hid (I1.out.new N3a)
    have R2 := Lib.hid (R2.out.new N3a)
    have N3 := Lib.hid (N2.out.trans N3a); clear N3a
    rw [HZ.out] at l3 r3
    obtain rfl : 0 = n3 := by simpa using l3
    have R3 := Lib.hid r3; clear l3 r3
    go_wp2_with fail
    refine (equalInts_any _ _ 0 0 _ _ [] [] (by omega) (by omega) _ (R2.out.ints rfl) (R3.out.ints rfl)).mono ?_
    (rw [decide_eq_true rfl]; rintro e w4 ⟨rfl, N4a⟩)
    have s4 := N4a.le
    have I1 := Lib.hid (I1.out.new N4a)
    have R2 := Lib.hid (R2.out.new N4a)
    have R3 := Lib.hid (R3.out.new N4a)
    have N4 := Lib.hid (N3.out.trans N4a); clear N4a
    go_wp2_with fail
    refine (SSeenParts_ans B1 m1 d1 ys vw at0 (by omega) _ I1.out).mono ?_
    rintro e w5 ⟨A5, n5, c5, rfl, l5, r5, N5a⟩
    have s5 := N5a.le
    have I1 := Lib.hid (I1.out.new N5a)
    have R2 := Lib.hid (R2.out.new N5a)
    have R3 := Lib.hid (R3.out.new N5a)
    have N5 := Lib.hid (N4.out.trans N5a); clear N5a
    rw [HZ.out] at l5 r5
    obtain rfl : 0 = n5 := by simpa using l5
    have R5 := Lib.hid r5; clear l5 r5
    go_wp2_with fail
    refine (equalInts_any _ _ 0 0 _ _ [] [] (by omega) (by omega) _ (R2.out.ints rfl) (R5.out.ints rfl)).mono ?_
    (rw [decide_eq_true rfl]; rintro e w6 ⟨rfl, N6a⟩)
    have s6 := N6a.le
    have I1 := Lib.hid (I1.out.new N6a)
    have R2 := Lib.hid (R2.out.new N6a)
    have R3 := Lib.hid (R3.out.new N6a)
    have R5 := Lib.hid (R5.out.new N6a)
    have N6 := Lib.hid (N5.out.trans N6a); clear N6a
    go_wp2
    go_ret
    exact ⟨rfl, N6.out⟩
  · have zp : 0 < (snA ys vw at0).length := List.length_pos_iff.2 hz
    have zc := snA_len (xs := ys) (view := vw) (at_ := at0)
    obtain ⟨nz, LZ⟩ : ∃ nz, Hid ((snA ys vw at0).length = nz) := ⟨_, Lib.hid rfl⟩
    have z1 : 1 ≤ nz := by have := LZ.out; omega
    have z8 : nz ≤ 1048576 := by have := LZ.out; omega
    have zi : (1 : Int) ≤ (nz : Int) := by omega
    have zj : (nz : Int) ≤ 1048576 := by omega
    have zb : ((nz : Int) == 0) = false := by simp; omega
    have NE := Lib.hid hz
    clear hz zp zc
    go_wp2_with fail
    refine (SeenParts_ans B1 m1 d1 ys vw at0 (by omega) _ I1.out).mono ?_
    rintro e w2 ⟨A2, n2, c2, rfl, l2, r2, N2a⟩
    have s2 := N2a.le
    have I1 := Lib.hid (I1.out.new N2a)
    have N2 := Lib.hid (N1.out.trans N2a); clear N2a
    obtain rfl : nz = n2 := by have := LZ.out; omega
    have R2 := Lib.hid r2; clear l2 r2
    go_wp2_with fail
    refine (SSeenParts_ans B1 m1 d1 ys vw at0 (by omega) _ I1.out).mono ?_
    rintro e w3 ⟨A3, n3, c3, rfl, l3, r3, N3a⟩
    have s3 := N3a.le
    have I1 := Lib.hid (I1.out.new N3a)
    have R2 := Lib.hid (R2.out.new N3a)
    have N3 := Lib.hid (N2.out.trans N3a); clear N3a
    obtain rfl : nz = n3 := by have := LZ.out; omega
    have R3 := Lib.hid r3; clear l3 r3
    go_wp2_with fail
    refine (equalInts_any _ _ nz nz _ _ _ _ (by omega) (by omega) _ (R2.out.ints LZ.out) (R3.out.ints LZ.out)).mono ?_
    (rw [decide_eq_true rfl]; rintro e w4 ⟨rfl, N4a⟩)
    have s4 := N4a.le
    have I1 := Lib.hid (I1.out.new N4a)
    have R2 := Lib.hid (R2.out.new N4a)
    have R3 := Lib.hid (R3.out.new N4a)
    have N4 := Lib.hid (N3.out.trans N4a); clear N4a
    have hok : snOk ys vw at0 = true := by
      have h := NE.out
      unfold snA at h
      by_cases hk : snOk ys vw at0 = true
      · exact hk
      · rw [if_neg hk] at h; exact absurd rfl h
    obtain ⟨⟨n8, hall⟩, hvw, hat⟩ := snOk_iff.1 hok
    have he : snA ys vw at0 = snTo ys vw at0 m1 := by unfold snA; rw [if_pos hok]; rw [LY.out]
    have HE := Lib.hid he; have HOK := Lib.hid hok; have HAL := Lib.hid hall
    obtain ⟨hvw0, hvw1⟩ := hvw
    obtain ⟨hat0, hat1⟩ := hat
    by_cases h50 : 200000 < vw + 50
    · clear hok hall he n8
      go_wp2_with fail
      refine (SSeenParts_ans B1 m1 d1 ys vw at0 (by omega) _ I1.out).mono ?_
      rintro e w5 ⟨A5, n5, c5, rfl, l5, r5, N5a⟩
      have s5 := N5a.le
      have I1 := Lib.hid (I1.out.new N5a)
      have R2 := Lib.hid (R2.out.new N5a)
      have R3 := Lib.hid (R3.out.new N5a)
      have N5 := Lib.hid (N4.out.trans N5a); clear N5a
      obtain rfl : nz = n5 := by have := LZ.out; omega
      have R5 := Lib.hid r5; clear l5 r5
      go_wp2_with fail
      refine (equalInts_any _ _ nz nz _ _ _ _ (by omega) (by omega) _ (R2.out.ints LZ.out) (R5.out.ints LZ.out)).mono ?_
      (rw [decide_eq_true rfl]; rintro e w6 ⟨rfl, N6a⟩)
      have s6 := N6a.le
      have I1 := Lib.hid (I1.out.new N6a)
      have R2 := Lib.hid (R2.out.new N6a)
      have R3 := Lib.hid (R3.out.new N6a)
      have R5 := Lib.hid (R5.out.new N6a)
      have N6 := Lib.hid (N5.out.trans N6a); clear N6a
      go_wp2
      go_ret
      exact ⟨rfl, N6.out⟩
    · have hm18 : (m1 : Int) ≤ 8 := by rw [LY.out] at n8; exact n8
      have hoA : snOk ys (vw + 50) at0 = true := snOk_iff.2 ⟨⟨n8, hall⟩, by omega, by omega⟩
      have heA : snA ys (vw + 50) at0 = snTo ys (vw + 50) at0 m1 := by unfold snA; rw [if_pos hoA]; rw [LY.out]
      have HEA := Lib.hid heA
      have vw50 : wrap64 (vw + 50) = vw + 50 := by rw [← wrapEq64]; exact IntWalk.i64_in _ (by omega)
      have OI := Lib.hid (fun t (ht : t < nz) => snTo_get (xs := ys) (view := vw) (at_ := at0) (m := m1) (t := t) (by have := LZ.out; rw [HE.out] at this; omega))
      clear hok hall he n8 heA hoA
      go_wp2_with fail
      refine (SeenParts_ans B1 m1 d1 ys (vw + 50) at0 (by omega) _ I1.out).mono ?_
      rintro e w5 ⟨A5, n5, c5, rfl, l5, r5, N5a⟩
      have s5 := N5a.le
      have I1 := Lib.hid (I1.out.new N5a)
      have R2 := Lib.hid (R2.out.new N5a)
      have R3 := Lib.hid (R3.out.new N5a)
      have N5 := Lib.hid (N4.out.trans N5a); clear N5a
      have LA := Lib.hid l5
      have na8 : n5 ≤ 1048576 := by have h1 := snTo_len (xs := ys) (view := vw + 50) (at_ := at0) (k := m1); rw [← HEA.out] at h1; have := LA.out; omega
      have RA := Lib.hid r5
      have IR := Lib.hid (fun q (hq : q < m1) W (hW : New w5 W) => isInL_any _ n5 c5 q (snA ys (vw + 50) at0) na8 W ((RA.out.ints LA.out).new hW))
      rw [HEA.out] at IR
      have IS := Lib.hid (fun q (hq : q < m1) => (show inL (snTo ys (vw + 50) at0 m1) q = snB ys (vw + 50) at0 q from snTo_in hq))
      obtain ⟨b, off, rfl, hb, hc⟩ := (R2.out.ints LZ.out).at_ (by omega)
      rw [HE.out] at hc
      have HC := Lib.hid hc
      have NN := Lib.hid N5.out
      clear hc l5 r5
      go_wp2
      go_loopw [8] (fun x wr => ∃ j : Nat, j ≤ nz ∧ x = .int .i64 j ∧ Hid (New w5 wr)) (fun x _ => nz - (intOf x).toNat)
      case atStart => exact ⟨0, Nat.zero_le _, rfl, Lib.hid (by (repeat (first | exact New.refl _ | assumption | refine New.alloc ?_ _ | refine New.drew ?_ | refine New.drewN ?_ _ | refine New.setCell ?_ (by first | omega | (simp; omega) | (simp; done)) _ | refine New.trans ?_ (by assumption))))⟩
      case round =>
        obtain ⟨j, hj, rfl, HW⟩ := hrel
        have j0 : (0 : Int) ≤ (j : Int) := by omega
        by_cases hlt : j < nz
        · have j1 : (j : Int) < (nz : Int) := by omega
          obtain ⟨q, hq, hqm, hqs, hqp⟩ := OI.out j hlt
          have g0 := (HW.out.cells b _ hb).trans (HC.out j hlt)
          rw [hq] at g0
          have IQ := fun N => IR.out q hqm (wr.drewN N) (HW.out.drewN N)
          rw [IS.out q hqm, snB_more hqs] at IQ
          have IT := Lib.hid IQ
          have q0 : (0 : Int) ≤ (q : Int) := by omega
          clear IQ hq hqs
          rcases Nat.eq_zero_or_pos j with h0 | h0
          · subst h0
            rw [Nat.add_zero] at g0
            clear hqp
            go_wp2
            go_quiet ((go_at_call 23; exact Calls.quiet_of_same ((IT.out _).mono fun _ _ h => ⟨h.1, h.2.symm⟩)))
            go_wp2
            go_roundw
            case rel => exact ⟨0 + 1, by omega, by go_num, Lib.hid (HW.out.drewN _)⟩
            case measure => simp [intOf]; omega
          · obtain ⟨p, rfl⟩ : ∃ p, j = p + 1 := ⟨j - 1, by omega⟩
            obtain ⟨r, hr, hrm, _, _⟩ := OI.out p (by omega)
            have g2 := (HW.out.cells b _ hb).trans (HC.out p (by omega))
            rw [hr] at g2
            have hrq := hqp p r (by omega) hr
            have nd : decide ((q : Int) ≤ (r : Int)) = false := decide_eq_false (by omega)
            have nd2 : decide (q ≤ r) = false := decide_eq_false (by omega)
            have pp : decide ((0 : Int) < ((p + 1 : Nat) : Int)) = true := decide_eq_true (by omega)
            have p0 : (0 : Int) ≤ (p : Int) := by omega
            have p1 : (p : Int) < (nz : Int) := by omega
            have pi : (p : Int) ≤ 1048576 := by omega
            have iw : IntKind.i64.wrap ((p : Int) + 1 - 1) = (p : Int) := by rw [IntWalk.i64_in _ (by omega)]; omega
            clear hr hqp
            go_wp2
            go_quiet ((go_at_call 23; exact Calls.quiet_of_same ((IT.out _).mono fun _ _ h => ⟨h.1, h.2.symm⟩)))
            go_wp2
            go_roundw
            case rel => exact ⟨p + 1 + 1, by omega, by go_num, Lib.hid (HW.out.drewN _)⟩
            case measure => simp [intOf]; omega
        · obtain rfl : j = nz := by omega
          go_wp2
          go_ret
          exact ⟨rfl, NN.out.trans HW.out⟩
end Go.Proofs.Ythgfkdgdblfogaa
