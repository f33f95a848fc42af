/- The law FnCommonBoxPath, walked: a common box is the last one of the common path. Condition: the code can be read. -/
import Derived.Test.YtohjfddmnhnfjaaDrawPt
import Derived.Test.YtohjfddmnhnfjaaPathP
namespace Go.Proofs.Ytohjfddmnhnfjaa
open Go.RowKit

set_option maxHeartbeats 4000000 in
theorem lawCommonBoxPath (A : Option Addr) (n c : Nat) (hn : n ≤ maxLen) (hnc : n ≤ c) (w : World) (hb : Bytes w A n) :
    Calls Try.prog 11 #[.slice A n c] w fun e w' => e = .returned (.bool true) ∧ New w w' := by
  have HB := Lib.hid hb; have HM := Lib.hid hn
  clear hb
  unfold maxLen at hn
  by_cases hbig : 1048576 < n
  · go_enter Try.func11, Try.ntmps11
    go_wp2
    go_ret
    exact ⟨rfl, by (repeat (first | exact New.refl _ | assumption | refine New.alloc ?_ _ | refine New.drew ?_ | refine New.drewN ?_ _ | refine New.setCell ?_ (by first | omega | (simp; omega) | (simp; done)) _ | refine New.trans ?_ (by assumption)))⟩
  have hm : (n : Int) ≤ 1048576 := by omega
  have hm0 : (0 : Int) ≤ (n : Int) := by omega
  go_enter Try.func11, Try.ntmps11
  go_wp2_with fail
  refine (DrawCommonBox_any A n c HM.out hnc _ HB.out).mono ?_
  rintro e w1 ⟨B1, m1, d1, zs, x, y, rfl, I1, l1, kd, xb, yb, N1a⟩
  have s1 := N1a.le
  have N1 := Lib.hid ((New.refl w).trans N1a); clear N1a
  replace I1 := Lib.hid I1
  by_cases hok : (nodeOk m1 zs x && nodeOk m1 zs y) = true
  · obtain ⟨hx, hy⟩ : nodeOk m1 zs x = true ∧ nodeOk m1 zs y = true := by simpa using hok
    obtain ⟨hv, a, rfl, ha⟩ := nodeOk_iff.1 hx
    obtain ⟨_, i, rfl, hi⟩ := nodeOk_iff.1 hy
    have HV := Lib.hid hv; have v1 := (vtB_iff.1 hv).1
    have a0 : (0 : Int) ≤ (a : Int) := by omega
    have a1 : (a : Int) < (m1 : Int) := by omega
    have i0 : (0 : Int) ≤ (i : Int) := by omega
    have i1 : (i : Int) < (m1 : Int) := by omega
    clear hok hx hy xb yb
    have EC := Lib.hid (comA_at hv ha hi)
    have kl := com_lt (link_vt hv) ha hi
    have LX0 := pathA_size hv ha
    have LY0 := pathA_size hv hi
    have d5 := dep_le5 hv ha
    have d6 := dep_le5 hv hi
    have PA := Lib.hid (pathA_at hv ha)
    have PB := Lib.hid (pathA_at hv hi)
    have EL : lastK ((pathL zs a).map Int.ofNat) ((pathL zs i).map Int.ofNat) (pathL zs a).length = (comL zs i a : Nat) := (lastK_path zs a i _ (Nat.le_refl _)).trans (comK_all (link_vt hv) ha hi)
    rw [← PA.out, ← PB.out, path_len] at EL
    obtain ⟨np, hnp⟩ : ∃ np, dep zs a + 1 = np := ⟨_, rfl⟩
    obtain ⟨nq, hnq⟩ : ∃ nq, dep zs i + 1 = nq := ⟨_, rfl⟩
    rw [hnp] at LX0 EL
    rw [hnq] at LY0
    have LX := Lib.hid LX0; have LY := Lib.hid LY0; replace EL := Lib.hid EL
    have np6 : (np : Int) ≤ 6 := by omega
    have nq6 : (nq : Int) ≤ 6 := by omega
    have np0 : (0 : Int) ≤ (np : Int) := by omega
    have PG := Lib.hid (fun t => (show ∃ u : Nat, (pathA m1 zs (a : Int)).getD t 0 = (u : Int) by rw [PA.out, getD_map]; exact ⟨_, rfl⟩))
    generalize comL zs i a = k at *
    have k0 : (0 : Int) ≤ (k : Int) := by omega
    clear hv hnp hnq LX0 LY0 d5 d6
    go_wp2_with fail
    refine (CommonBox_any B1 m1 d1 zs (a : Int) (i : Int) (by omega) _ I1.out).mono ?_
    rw [EC.out]
    rintro e w2 ⟨rfl, N2a⟩
    have s2 := N2a.le
    have I1 := Lib.hid (I1.out.new N2a)
    have N2 := Lib.hid (N1.out.trans N2a); clear N2a
    go_wp2_with fail
    refine (SCommonBox_any B1 m1 d1 zs (a : Int) (i : Int) (by omega) _ I1.out).mono ?_
    rw [EC.out]
    rintro e w3 ⟨rfl, N3a⟩
    have s3 := N3a.le
    have I1 := Lib.hid (I1.out.new N3a)
    have N3 := Lib.hid (N2.out.trans N3a); clear N3a
    go_wp2_with fail
    refine (PathTo_ans B1 m1 d1 zs (a : Int) (by omega) _ I1.out).mono ?_
    rintro e w4 ⟨A4, n4, c4, rfl, l4, r4, N4a⟩
    have s4 := N4a.le
    have I1 := Lib.hid (I1.out.new N4a)
    have N4 := Lib.hid (N3.out.trans N4a); clear N4a
    obtain rfl : np = n4 := by have := LX.out; omega
    have R4 := Lib.hid r4; clear l4 r4
    go_wp2_with fail
    refine (PathTo_ans B1 m1 d1 zs (i : Int) (by omega) _ I1.out).mono ?_
    rintro e w5 ⟨A5, n5, c5, rfl, l5, r5, N5a⟩
    have s5 := N5a.le
    have I1 := Lib.hid (I1.out.new N5a)
    have R4 := Lib.hid (R4.out.new N5a)
    have N5 := Lib.hid (N4.out.trans N5a); clear N5a
    obtain rfl : nq = n5 := by have := LY.out; omega
    have R5 := Lib.hid r5; clear l5 r5
    have NN := Lib.hid N5.out
    have IX := Lib.hid (R4.out.ints LX.out); have IY := Lib.hid (R5.out.ints LY.out)
    generalize pathA m1 zs (a : Int) = xs at *
    generalize pathA m1 zs (i : Int) = ys at *
    go_wp2
    go_loopw [9, 10] (fun l i wr => wr = w5 ∧ ∃ j : Nat, j ≤ np ∧ i = .int .i64 j ∧ l = .int .i64 (lastK xs ys j)) (fun _ i _ => np - (intOf i).toNat)
    case atStart => exact ⟨rfl, 0, Nat.zero_le _, rfl, rfl⟩
    case round =>
      obtain ⟨rfl, j, hj, rfl, rfl⟩ := hrel
      have j0 : (0 : Int) ≤ (j : Int) := by omega
      by_cases hlt : j < np
      · have j1 : (j : Int) < (np : Int) := by omega
        obtain ⟨b', off', rfl, hb', hc'⟩ := IX.out.at_ (by omega)
        have g1 := hc' j hlt
        obtain ⟨u, hu⟩ := PG.out j
        rw [hu] at g1
        have LS : lastK xs ys (j + 1) = if inL ys u = true then (u : Int) else lastK xs ys j := by rw [lastK, hu]; rfl
        obtain ⟨v, hv⟩ : ∃ v, inL ys u = v := ⟨_, rfl⟩
        rw [hv] at LS
        have HV := Lib.hid hv
        have u0 : (0 : Int) ≤ (u : Int) := by omega
        generalize lastK xs ys j = z at *
        clear hc' hu hv
        cases v
        · have LS2 := Lib.hid (LS.trans (if_neg (by simp)))
          clear LS
          go_wp2_with fail
          refine (isInL_any _ nq _ u _ (by omega) _ IY.out).mono ?_
          rw [HV.out]
          rintro e w' ⟨rfl, rfl⟩
          go_wp2
          go_roundw
          case rel => exact ⟨trivial, j + 1, by omega, by go_num, by rw [LS2.out]⟩
          case measure => simp [intOf]; omega
        · have LS2 := Lib.hid (LS.trans (if_pos rfl))
          clear LS
          go_wp2_with fail
          refine (isInL_any _ nq _ u _ (by omega) _ IY.out).mono ?_
          rw [HV.out]
          rintro e w' ⟨rfl, rfl⟩
          go_wp2
          go_roundw
          case rel => exact ⟨trivial, j + 1, by omega, by go_num, by rw [LS2.out]⟩
          case measure => simp [intOf]; omega
      · obtain rfl : np = j := by omega
        have h1 := EL.out
        rw [h1]
        clear h1
        go_wp2
        go_ret
        exact ⟨rfl, NN.out⟩
  · have EC := Lib.hid (show comA m1 zs x y = -1 by unfold comA; exact if_neg hok)
    clear hok
    go_wp2_with fail
    refine (CommonBox_any B1 m1 d1 zs x y (by omega) _ I1.out).mono ?_
    rw [EC.out]
    rintro e w2 ⟨rfl, N2a⟩
    have s2 := N2a.le
    have I1 := Lib.hid (I1.out.new N2a)
    have N2 := Lib.hid (N1.out.trans N2a); clear N2a
    go_wp2_with fail
    refine (SCommonBox_any B1 m1 d1 zs x y (by omega) _ I1.out).mono ?_
    rw [EC.out]
    rintro e w3 ⟨rfl, N3a⟩
    have s3 := N3a.le
    have I1 := Lib.hid (I1.out.new N3a)
    have N3 := Lib.hid (N2.out.trans N3a); clear N3a
    go_wp2_with fail
    refine (SCommonBox_any B1 m1 d1 zs x y (by omega) _ I1.out).mono ?_
    rw [EC.out]
    rintro e w4 ⟨rfl, N4a⟩
    have s4 := N4a.le
    have I1 := Lib.hid (I1.out.new N4a)
    have N4 := Lib.hid (N3.out.trans N4a); clear N4a
    go_wp2
    go_ret
    exact ⟨rfl, N4.out⟩
end Go.Proofs.Ytohjfddmnhnfjaa
