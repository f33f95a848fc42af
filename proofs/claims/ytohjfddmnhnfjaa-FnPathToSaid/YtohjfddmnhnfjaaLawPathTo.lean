/- The law FnPathTo, walked: a path leads from the first box to the box, each box directly in the one ahead of it. Condition: the code can be read. -/
import Derived.Test.YtohjfddmnhnfjaaDrawPt
import Derived.Test.YtohjfddmnhnfjaaPathP
namespace Go.Proofs.Ytohjfddmnhnfjaa
open Go.RowKit

set_option maxHeartbeats 4000000 in
theorem lawPathTo (A : Option Addr) (n c : Nat) (hn : n ≤ maxLen) (hnc : n ≤ c) (w : World) (hb : Bytes w A n) :
    Calls Try.prog 6 #[.slice A n c] w fun e w' => e = .returned (.bool true) ∧ New w w' := by
  have HB := Lib.hid hb; have HM := Lib.hid hn
  clear hb
  unfold maxLen at hn
  by_cases hbig : 1048576 < n
  · go_enter Try.func6, Try.ntmps6
    go_wp2
    go_ret
    exact ⟨rfl, by (repeat (first | exact New.refl _ | assumption | refine New.alloc ?_ _ | refine New.drew ?_ | refine New.drewN ?_ _ | refine New.setCell ?_ (by first | omega | (simp; omega) | (simp; done)) _ | refine New.trans ?_ (by assumption)))⟩
  have hm : (n : Int) ≤ 1048576 := by omega
  have hm0 : (0 : Int) ≤ (n : Int) := by omega
  go_enter Try.func6, Try.ntmps6
  go_wp2_with fail
  refine (DrawPathTo_any A n c HM.out hnc _ HB.out).mono ?_
  rintro e w1 ⟨B1, m1, d1, zs, x, rfl, I1, l1, kd, xb, N1a⟩
  have s1 := N1a.le
  have N1 := Lib.hid ((New.refl w).trans N1a); clear N1a
  replace I1 := Lib.hid I1
  by_cases hok : nodeOk m1 zs x = true
  · obtain ⟨hv, a, rfl, ha⟩ := nodeOk_iff.1 hok
    have HV := Lib.hid hv; have v1 := (vtB_iff.1 hv).1
    have a0 : (0 : Int) ≤ (a : Int) := by omega
    have a1 : (a : Int) < (m1 : Int) := by omega
    clear hok xb
    have EA := Lib.hid (depA_at hv ha)
    have LP0 := pathA_size hv ha
    have d5 := dep_le5 hv ha
    obtain ⟨np, hnp⟩ : ∃ np, dep zs a + 1 = np := ⟨_, rfl⟩
    rw [hnp] at LP0
    have LP := Lib.hid LP0
    have np1 : (1 : Int) ≤ (np : Int) := by omega
    have np6 : (np : Int) ≤ 6 := by omega
    have npb : ((np : Int) == 0) = false := by simp; omega
    have PE := Lib.hid (pathA_at hv ha)
    have PN := Lib.hid (fun d (hd : d + 1 < np) => path_next (link_vt hv) ha (d := d) (by rw [path_len]; omega))
    have P0 := Lib.hid (path_first (link_vt hv) ha)
    have P9 := Lib.hid (path_last zs a)
    have npd : (np : Int) - 1 = ((dep zs a : Nat) : Int) := by omega
    go_wp2_with fail
    refine (PathTo_ans B1 m1 d1 zs (a : Int) (by omega) _ I1.out).mono ?_
    rintro e w2 ⟨A2, n2, c2, rfl, l2, r2, N2a⟩
    have s2 := N2a.le
    have I1 := Lib.hid (I1.out.new N2a)
    have N2 := Lib.hid (N1.out.trans N2a); clear N2a
    obtain rfl : np = n2 := by have := LP.out; omega
    have R2 := Lib.hid r2; clear l2 r2
    go_wp2_with fail
    refine (SPathTo_ans B1 m1 d1 zs (a : Int) (by omega) _ I1.out).mono ?_
    rintro e w3 ⟨A3, n3, c3, rfl, l3, r3, N3a⟩
    have s3 := N3a.le
    have I1 := Lib.hid (I1.out.new N3a)
    have R2 := Lib.hid (R2.out.new N3a)
    have N3 := Lib.hid (N2.out.trans N3a); clear N3a
    obtain rfl : np = n3 := by have := LP.out; omega
    have R3 := Lib.hid r3; clear l3 r3
    go_wp2_with fail
    refine (equalInts_any _ _ np np _ _ _ _ (by omega) (by omega) _ (R2.out.ints LP.out) (R3.out.ints LP.out)).mono ?_
    rw [decide_eq_true rfl]
    rintro e w4 ⟨rfl, N4a⟩
    have s4 := N4a.le
    have I1 := Lib.hid (I1.out.new N4a)
    have R2 := Lib.hid (R2.out.new N4a)
    have R3 := Lib.hid (R3.out.new N4a)
    have N4 := Lib.hid (N3.out.trans N4a); clear N4a
    have NN := Lib.hid N4.out
    generalize dep zs a = D at *
    have npD : (np : Int) = (D : Int) + 1 := by omega
    have hDn : D < np := by omega
    have D0 : (0 : Int) ≤ (D : Int) := by omega
    clear hv hnp d5 LP0
    have H0 : 0 < np := by omega
    obtain ⟨b', off', rfl, hb', hc'⟩ := (R2.out.ints LP.out).at_ H0
    have HC := Lib.hid hc'
    obtain ⟨b, off, rfl, hb, hc⟩ := I1.out.at_ (by omega)
    have HT := Lib.hid hc
    have NPD := Lib.hid npd
    have NPE := Lib.hid npD
    clear hc' hc npd npD
    go_wp2
    go_loopw [6] (fun i wr => ∃ j : Nat, 1 ≤ j ∧ j ≤ np ∧ i = .int .i64 j ∧ Hid (New w4 wr)) (fun i _ => np - (intOf i).toNat)
    case atStart => exact ⟨1, Nat.le_refl _, H0, rfl, Lib.hid (New.refl _)⟩
    case round =>
      obtain ⟨j, hj1, hj, rfl, HW⟩ := hrel
      obtain ⟨t, rfl⟩ : ∃ t, j = t + 1 := ⟨j - 1, by omega⟩
      have j0 : (0 : Int) ≤ (t : Int) + 1 := by omega
      have j00 : (0 : Int) ≤ (t : Int) := by omega
      by_cases hlt : t + 1 < np
      · have g1 := (HW.out.cells b' _ hb').trans (HC.out (t + 1) hlt)
        have g2 := (HW.out.cells b' _ hb').trans (HC.out t (by omega))
        rw [PE.out, getD_map] at g1 g2
        obtain ⟨pn, pl⟩ := PN.out t hlt
        have g3 := (HW.out.cells b _ hb).trans (HT.out ((pathL zs a).getD (t + 1) 0 * 9) (by omega))
        rw [show zs.getD ((pathL zs a).getD (t + 1) 0 * 9) 0 = _ from pn] at g3
        have j1 : (t : Int) + 1 < (np : Int) := by omega
        clear pn
        generalize (pathL zs a).getD (t + 1) 0 = u at *
        generalize (pathL zs a).getD t 0 = v at *
        have u0 : (0 : Int) ≤ (u : Int) := by omega
        have u1 : (u : Int) < (m1 : Int) := by omega
        have v0 : (0 : Int) ≤ (v : Int) := by omega
        have du : decide (m1 ≤ u) = false := decide_eq_false (by omega)
        have t1 : (t : Int) < (np : Int) := by omega
        have tw : IntKind.i64.wrap (t : Int) = (t : Int) := IntWalk.i64_in _ (by omega)
        go_wp2
        go_quiet (fail)
        go_wp2
        go_roundw
        case rel => exact ⟨t + 1 + 1, by omega, by omega, by go_num, Lib.hid (by (repeat (first | exact New.refl _ | assumption | refine New.alloc ?_ _ | refine New.drew ?_ | refine New.drewN ?_ _ | refine New.setCell ?_ (by first | omega | (simp; omega) | (simp; done)) _ | refine New.trans ?_ (by assumption))))⟩
        case measure => simp [intOf]; omega
      · have c0 := (HW.out.cells b' _ hb').trans (HC.out 0 H0)
        have c9 := (HW.out.cells b' _ hb').trans (HC.out D hDn)
        rw [PE.out, getD_map, P0.out, Nat.add_zero] at c0
        rw [PE.out, getD_map, P9.out] at c9
        have I2 := Lib.hid (I1.out.new HW.out)
        have npt : np = t + 1 := by omega
        have h1 := NPD.out
        have h2 := NPE.out
        have j2 : (np : Int) ≤ (t : Int) + 1 := by omega
        have dD : (D : Int) < (np : Int) := by omega
        clear NPD NPE npt
        go_wp2_with (go_at_call 30; refine (DepthOf_any _ m1 d1 zs (a : Int) (by omega) _ I2.out).mono ?_; rw [EA.out]; rintro e wc ⟨rfl, Nc⟩; (replace Nc := Lib.hid (HW.out.trans Nc)))
        go_ret
        exact ⟨by first | rfl | (congr 3; simp; omega) | (simp; omega), NN.out.trans Nc.out⟩
  · have hok' : nodeOk m1 zs x = false := by simpa using hok
    clear hok
    have LZ : Hid ((pathA m1 zs x).length = 0) := Lib.hid (by rw [pathA_no hok']; rfl)
    clear hok'
    go_wp2_with fail
    refine (PathTo_ans B1 m1 d1 zs x (by omega) _ I1.out).mono ?_
    rintro e w2 ⟨A2, n2, c2, rfl, l2, r2, N2a⟩
    have s2 := N2a.le
    have I1 := Lib.hid (I1.out.new N2a)
    have N2 := Lib.hid (N1.out.trans N2a); clear N2a
    obtain rfl : n2 = 0 := by rw [← l2]; exact LZ.out
    have R2 := Lib.hid r2; clear l2 r2
    go_wp2_with fail
    refine (SPathTo_ans B1 m1 d1 zs x (by omega) _ I1.out).mono ?_
    rintro e w3 ⟨A3, n3, c3, rfl, l3, r3, N3a⟩
    have s3 := N3a.le
    have I1 := Lib.hid (I1.out.new N3a)
    have R2 := Lib.hid (R2.out.new N3a)
    have N3 := Lib.hid (N2.out.trans N3a); clear N3a
    obtain rfl : n3 = 0 := by rw [← l3]; exact LZ.out
    have R3 := Lib.hid r3; clear l3 r3
    go_wp2_with fail
    refine (equalInts_any _ _ 0 0 _ _ _ _ (by omega) (by omega) _ (R2.out.ints LZ.out) (R3.out.ints LZ.out)).mono ?_
    rw [decide_eq_true rfl]
    rintro e w4 ⟨rfl, N4a⟩
    have s4 := N4a.le
    have I1 := Lib.hid (I1.out.new N4a)
    have R2 := Lib.hid (R2.out.new N4a)
    have R3 := Lib.hid (R3.out.new N4a)
    have N4 := Lib.hid (N3.out.trans N4a); clear N4a
    go_wp2_with fail
    refine (SPathTo_ans B1 m1 d1 zs x (by omega) _ I1.out).mono ?_
    rintro e w5 ⟨A5, n5, c5, rfl, l5, r5, N5a⟩
    have s5 := N5a.le
    have I1 := Lib.hid (I1.out.new N5a)
    have R2 := Lib.hid (R2.out.new N5a)
    have R3 := Lib.hid (R3.out.new N5a)
    have N5 := Lib.hid (N4.out.trans N5a); clear N5a
    obtain rfl : n5 = 0 := by rw [← l5]; exact LZ.out
    have R5 := Lib.hid r5; clear l5 r5
    go_wp2_with fail
    refine (equalInts_any _ _ 0 0 _ _ _ _ (by omega) (by omega) _ (R2.out.ints LZ.out) (R5.out.ints LZ.out)).mono ?_
    rw [decide_eq_true rfl]
    rintro e w6 ⟨rfl, N6a⟩
    have s6 := N6a.le
    have I1 := Lib.hid (I1.out.new N6a)
    have R2 := Lib.hid (R2.out.new N6a)
    have R3 := Lib.hid (R3.out.new N6a)
    have R5 := Lib.hid (R5.out.new N6a)
    have N6 := Lib.hid (N5.out.trans N6a); clear N6a
    go_wp2
    go_ret
    exact ⟨rfl, N6.out⟩
end Go.Proofs.Ytohjfddmnhnfjaa
