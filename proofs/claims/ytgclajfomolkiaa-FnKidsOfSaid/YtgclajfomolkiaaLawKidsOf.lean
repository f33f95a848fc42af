/- The law FnKidsOf, walked: the boxes directly in a box are those whose parent it is, in order. Condition: the code can be read. -/
import Derived.Test.YtgclajfomolkiaaDrawTt
import Derived.Test.YtgclajfomolkiaaTreeP
namespace Go.Proofs.Ytgclajfomolkiaa
open Go.RowKit

set_option maxHeartbeats 4000000 in
theorem lawKidsOf (A : Option Addr) (n c : Nat) (hn : n ≤ maxLen) (hnc : n ≤ c) (w : World) (hb : Bytes w A n) :
    Calls Try.prog 4 #[.slice A n c] w fun e w' => e = .returned (.bool true) ∧ New w w' := by
  have HB := Lib.hid hb; have HM := Lib.hid hn
  clear hb
  unfold maxLen at hn
  by_cases hbig : 1048576 < n
  · go_enter Try.func4, Try.ntmps4
    go_wp2
    go_ret
    exact ⟨rfl, by (repeat (first | exact New.refl _ | assumption | refine New.alloc ?_ _ | refine New.drew ?_ | refine New.drewN ?_ _ | refine New.setCell ?_ (by first | omega | (simp; omega) | (simp; done)) _ | refine New.trans ?_ (by assumption)))⟩
  have hm : (n : Int) ≤ 1048576 := by omega
  have hm0 : (0 : Int) ≤ (n : Int) := by omega
  go_enter Try.func4, Try.ntmps4
  go_wp2_with fail
  refine (DrawKidsOf_any A n c HM.out hnc _ HB.out).mono ?_
  rintro e w1 ⟨B1, m1, d1, zs, x, rfl, I1, l1, kd, xb, N1a⟩
  have s1 := N1a.le
  have N1 := Lib.hid ((New.refl w).trans N1a); clear N1a
  replace I1 := Lib.hid I1
  by_cases hok : nodeOk m1 zs x = true
  · obtain ⟨hv, a, rfl, ha⟩ := nodeOk_iff.1 hok
    have HV := Lib.hid hv; have v1 := (vtB_iff.1 hv).1
    have a0 : (0 : Int) ≤ (a : Int) := by omega
    have a1 : (a : Int) < (m1 : Int) := by omega
    clear hok xb
    have K1 := Lib.hid (fun j (hj : j < m1) (e : par zs j = (a : Int)) => kid_nth (n := m1) hj e)
    have KE := kidsA_at hv ha
    have k8 := kids_le (a := a) hv
    obtain ⟨nz, hnz⟩ : ∃ nz, (kidL zs m1 a).length = nz := ⟨_, rfl⟩
    rw [hnz] at k8
    have LZ : Hid ((kidsA m1 zs (a : Int)).length = nz) := Lib.hid (by rw [KE, List.length_map]; exact hnz)
    have KE := Lib.hid KE; have HNZ := Lib.hid hnz
    have nzi : (0 : Int) ≤ (nz : Int) := by omega
    have nz8 : (nz : Int) ≤ 8 := by omega
    go_wp2_with fail
    refine (KidsOf_ans B1 m1 d1 zs (a : Int) (by omega) _ I1.out).mono ?_
    rintro e w2 ⟨A2, n2, c2, rfl, l2, r2, N2a⟩
    have s2 := N2a.le
    have I1 := Lib.hid (I1.out.new N2a)
    have N2 := Lib.hid (N1.out.trans N2a); clear N2a
    obtain rfl : nz = n2 := by have := LZ.out; omega
    have R2 := Lib.hid r2; clear l2 r2
    go_wp2_with fail
    refine (SKidsOf_ans B1 m1 d1 zs (a : Int) (by omega) _ I1.out).mono ?_
    rintro e w3 ⟨A3, n3, c3, rfl, l3, r3, N3a⟩
    have s3 := N3a.le
    have I1 := Lib.hid (I1.out.new N3a)
    have R2 := Lib.hid (R2.out.new N3a)
    have N3 := Lib.hid (N2.out.trans N3a); clear N3a
    obtain rfl : nz = n3 := by have := LZ.out; omega
    have R3 := Lib.hid r3; clear l3 r3
    go_wp2_with fail
    refine (equalInts_any _ _ nz nz _ _ _ _ (by omega) (by omega) _ (R2.out.ints LZ.out) (R3.out.ints LZ.out)).mono ?_
    rw [decide_eq_true rfl]
    rintro e w4 ⟨rfl, N4a⟩
    have s4 := N4a.le
    have I1 := Lib.hid (I1.out.new N4a)
    have R2 := Lib.hid (R2.out.new N4a)
    have R3 := Lib.hid (R3.out.new N4a)
    have N4 := Lib.hid (N3.out.trans N4a); clear N4a
    go_wp2_with fail
    refine (ValidTree_any B1 m1 d1 zs (by omega) _ I1.out).mono ?_
    rw [HV.out]
    rintro e w5 ⟨rfl, N5a⟩
    have s5 := N5a.le
    have I1 := Lib.hid (I1.out.new N5a)
    have R2 := Lib.hid (R2.out.new N5a)
    have R3 := Lib.hid (R3.out.new N5a)
    have N5 := Lib.hid (N4.out.trans N5a); clear N5a
    have NN := Lib.hid N5.out
    clear hv hnz
    obtain ⟨b, off, rfl, hb, hc⟩ := I1.out.at_ (by omega)
    have HC := Lib.hid hc
    clear hc
    have dd1 : decide (m1 ≤ a) = false := decide_eq_false (by omega)
    go_wp2
    go_loopw [6, 7] (fun k i wr => ∃ j : Nat, j ≤ m1 ∧ i = .int .i64 j ∧ k = .int .i64 ((kidL zs j a).length : Int) ∧ wr = w5) (fun _ i _ => m1 - (intOf i).toNat)
    case atStart => exact ⟨0, Nat.zero_le _, rfl, rfl, rfl⟩
    case round =>
      obtain ⟨j, hj, rfl, rfl, rfl⟩ := hrel
      have j0 : (0 : Int) ≤ (j : Int) := by omega
      by_cases hlt : j < m1
      · have g1 := HC.out (j * 9) (by omega)
        have j1 : (j : Int) < (m1 : Int) := by omega
        have ks := kid_succ zs j a
        by_cases hp : par zs j = (a : Int)
        · obtain ⟨q1, q2⟩ := K1.out j hlt hp
          rw [HNZ.out] at q1
          rw [if_pos hp] at ks
          have ks2 : Hid ((kidL zs (j + 1) a).length = (kidL zs j a).length + 1) := Lib.hid (by rw [ks]; simp)
          obtain ⟨b', off', rfl, hb', hc'⟩ := (R2.out.ints LZ.out).at_ (by omega)
          have g2 := hc' (kidL zs j a).length q1
          rw [KE.out, kid_at, q2] at g2
          rw [show zs.getD (j * 9) 0 = (a : Int) from hp] at g1
          generalize (kidL zs j a).length = u at *
          have u0 : (0 : Int) ≤ (u : Int) := by omega
          have u1 : (u : Int) < (nz : Int) := by omega
          clear hc' ks hp q1 q2
          go_wp2
          go_roundw
          case rel => exact ⟨j + 1, by omega, by go_num, by rw [ks2.out]; go_num, by first | trivial | rfl⟩
          case measure => simp [intOf]; omega
        · rw [if_neg hp] at ks
          have ks2 := Lib.hid ks
          have hpb : (zs.getD (j * 9) 0 == (a : Int)) = false := beq_eq_false_iff_ne.2 hp
          generalize zs.getD (j * 9) 0 = u at *
          clear ks hp
          go_wp2
          go_roundw
          case rel => exact ⟨j + 1, by omega, by go_num, by rw [ks2.out], by first | trivial | rfl⟩
          case measure => simp [intOf]; omega
      · obtain rfl : m1 = j := by omega
        have hz := HNZ.out
        rw [hz]
        clear hz
        go_wp2
        go_ret
        exact ⟨rfl, NN.out⟩
  · have hok' : nodeOk m1 zs x = false := by simpa using hok
    clear hok
    have LZ : Hid ((kidsA m1 zs x).length = 0) := Lib.hid (by rw [kidsA_no hok']; rfl)
    go_wp2_with fail
    refine (KidsOf_ans B1 m1 d1 zs x (by omega) _ I1.out).mono ?_
    rintro e w2 ⟨A2, n2, c2, rfl, l2, r2, N2a⟩
    have s2 := N2a.le
    have I1 := Lib.hid (I1.out.new N2a)
    have N2 := Lib.hid (N1.out.trans N2a); clear N2a
    obtain rfl : n2 = 0 := by rw [← l2]; exact LZ.out
    have R2 := Lib.hid r2; clear l2 r2
    go_wp2_with fail
    refine (SKidsOf_ans B1 m1 d1 zs x (by omega) _ I1.out).mono ?_
    rintro e w3 ⟨A3, n3, c3, rfl, l3, r3, N3a⟩
    have s3 := N3a.le
    have I1 := Lib.hid (I1.out.new N3a)
    have R2 := Lib.hid (R2.out.new N3a)
    have N3 := Lib.hid (N2.out.trans N3a); clear N3a
    obtain rfl : n3 = 0 := by rw [← l3]; exact LZ.out
    have R3 := Lib.hid r3; clear l3 r3
    go_wp2_with fail
    refine (equalInts_any _ _ 0 0 _ _ _ _ (by omega) (by omega) _ (R2.out.ints LZ.out) (R3.out.ints LZ.out)).mono ?_
    rw [decide_eq_true rfl]
    rintro e w4 ⟨rfl, N4a⟩
    have s4 := N4a.le
    have I1 := Lib.hid (I1.out.new N4a)
    have R2 := Lib.hid (R2.out.new N4a)
    have R3 := Lib.hid (R3.out.new N4a)
    have N4 := Lib.hid (N3.out.trans N4a); clear N4a
    cases hv : vtB m1 zs
    · have HV := Lib.hid hv; clear hv hok'
      go_wp2_with fail
      refine (ValidTree_any B1 m1 d1 zs (by omega) _ I1.out).mono ?_
      rw [HV.out]
      rintro e w5 ⟨rfl, N5a⟩
      have s5 := N5a.le
      have I1 := Lib.hid (I1.out.new N5a)
      have R2 := Lib.hid (R2.out.new N5a)
      have R3 := Lib.hid (R3.out.new N5a)
      have N5 := Lib.hid (N4.out.trans N5a); clear N5a
      go_wp2_with fail
      refine (SKidsOf_ans B1 m1 d1 zs x (by omega) _ I1.out).mono ?_
      rintro e w6 ⟨A6, n6, c6, rfl, l6, r6, N6a⟩
      have s6 := N6a.le
      have I1 := Lib.hid (I1.out.new N6a)
      have R2 := Lib.hid (R2.out.new N6a)
      have R3 := Lib.hid (R3.out.new N6a)
      have N6 := Lib.hid (N5.out.trans N6a); clear N6a
      obtain rfl : n6 = 0 := by rw [← l6]; exact LZ.out
      have R6 := Lib.hid r6; clear l6 r6
      go_wp2_with fail
      refine (equalInts_any _ _ 0 0 _ _ _ _ (by omega) (by omega) _ (R2.out.ints LZ.out) (R6.out.ints LZ.out)).mono ?_
      rw [decide_eq_true rfl]
      rintro e w7 ⟨rfl, N7a⟩
      have s7 := N7a.le
      have I1 := Lib.hid (I1.out.new N7a)
      have R2 := Lib.hid (R2.out.new N7a)
      have R3 := Lib.hid (R3.out.new N7a)
      have R6 := Lib.hid (R6.out.new N7a)
      have N7 := Lib.hid (N6.out.trans N7a); clear N7a
      go_wp2
      go_ret
      exact ⟨rfl, N7.out⟩
    · have HV := Lib.hid hv; have hd : ¬ (0 ≤ x ∧ x ≤ (m1 : Int) - 1) := by unfold nodeOk at hok'; rw [hv, Bool.true_and] at hok'; exact of_decide_eq_false hok'
      clear hv hok'
      by_cases h0 : x < 0
      · clear hd
        go_wp2_with fail
        refine (ValidTree_any B1 m1 d1 zs (by omega) _ I1.out).mono ?_
        rw [HV.out]
        rintro e w5 ⟨rfl, N5a⟩
        have s5 := N5a.le
        have I1 := Lib.hid (I1.out.new N5a)
        have R2 := Lib.hid (R2.out.new N5a)
        have R3 := Lib.hid (R3.out.new N5a)
        have N5 := Lib.hid (N4.out.trans N5a); clear N5a
        go_wp2_with fail
        refine (SKidsOf_ans B1 m1 d1 zs x (by omega) _ I1.out).mono ?_
        rintro e w6 ⟨A6, n6, c6, rfl, l6, r6, N6a⟩
        have s6 := N6a.le
        have I1 := Lib.hid (I1.out.new N6a)
        have R2 := Lib.hid (R2.out.new N6a)
        have R3 := Lib.hid (R3.out.new N6a)
        have N6 := Lib.hid (N5.out.trans N6a); clear N6a
        obtain rfl : n6 = 0 := by rw [← l6]; exact LZ.out
        have R6 := Lib.hid r6; clear l6 r6
        go_wp2_with fail
        refine (equalInts_any _ _ 0 0 _ _ _ _ (by omega) (by omega) _ (R2.out.ints LZ.out) (R6.out.ints LZ.out)).mono ?_
        rw [decide_eq_true rfl]
        rintro e w7 ⟨rfl, N7a⟩
        have s7 := N7a.le
        have I1 := Lib.hid (I1.out.new N7a)
        have R2 := Lib.hid (R2.out.new N7a)
        have R3 := Lib.hid (R3.out.new N7a)
        have R6 := Lib.hid (R6.out.new N7a)
        have N7 := Lib.hid (N6.out.trans N7a); clear N7a
        go_wp2
        go_ret
        exact ⟨rfl, N7.out⟩
      · have h1 : x ≥ (m1 : Int) := by omega
        clear hd
        go_wp2_with fail
        refine (ValidTree_any B1 m1 d1 zs (by omega) _ I1.out).mono ?_
        rw [HV.out]
        rintro e w5 ⟨rfl, N5a⟩
        have s5 := N5a.le
        have I1 := Lib.hid (I1.out.new N5a)
        have R2 := Lib.hid (R2.out.new N5a)
        have R3 := Lib.hid (R3.out.new N5a)
        have N5 := Lib.hid (N4.out.trans N5a); clear N5a
        go_wp2_with fail
        refine (SKidsOf_ans B1 m1 d1 zs x (by omega) _ I1.out).mono ?_
        rintro e w6 ⟨A6, n6, c6, rfl, l6, r6, N6a⟩
        have s6 := N6a.le
        have I1 := Lib.hid (I1.out.new N6a)
        have R2 := Lib.hid (R2.out.new N6a)
        have R3 := Lib.hid (R3.out.new N6a)
        have N6 := Lib.hid (N5.out.trans N6a); clear N6a
        obtain rfl : n6 = 0 := by rw [← l6]; exact LZ.out
        have R6 := Lib.hid r6; clear l6 r6
        go_wp2_with fail
        refine (equalInts_any _ _ 0 0 _ _ _ _ (by omega) (by omega) _ (R2.out.ints LZ.out) (R6.out.ints LZ.out)).mono ?_
        rw [decide_eq_true rfl]
        rintro e w7 ⟨rfl, N7a⟩
        have s7 := N7a.le
        have I1 := Lib.hid (I1.out.new N7a)
        have R2 := Lib.hid (R2.out.new N7a)
        have R3 := Lib.hid (R3.out.new N7a)
        have R6 := Lib.hid (R6.out.new N7a)
        have N7 := Lib.hid (N6.out.trans N7a); clear N7a
        go_wp2
        go_ret
        exact ⟨rfl, N7.out⟩
end Go.Proofs.Ytgclajfomolkiaa
