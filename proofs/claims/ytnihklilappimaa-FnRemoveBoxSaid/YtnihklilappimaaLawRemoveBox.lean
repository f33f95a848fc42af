/- The law FnRemoveBox, walked: the boxes behind a removed one move down, and the tree stays valid. Condition: the code can be read. -/
import Derived.Test.YtnihklilappimaaDrawRm
import Derived.Test.YtnihklilappimaaEdS
import Derived.Test.YtnihklilappimaaRemZ
import Derived.Test.YtnihklilappimaaBoxQ
import Derived.Test.YtnihklilappimaaTreeE
import Derived.Test.YtnihklilappimaaPathP
import Derived.Deep.RegionHeld3
namespace Go.Proofs.Ytnihklilappimaa
open Go.RowKit

set_option maxRecDepth 100000 in
set_option maxHeartbeats 4000000 in
theorem lawRemoveBox (A : Option Addr) (n c : Nat) (hn : n ≤ maxLen) (hnc : n ≤ c) (w : World) (hb : Bytes w A n) :
    Calls Try.prog 9 #[.slice A n c] w fun e w' => e = .returned (.bool true) ∧ New w w' := by
  have HB := Lib.hid hb; have HM := Lib.hid hn
  clear hb
  unfold maxLen at hn
  by_cases hbig : 1048576 < n
  · go_enter Try.func9, Try.ntmps9
    go_wp2
    go_ret
    exact ⟨rfl, by (repeat (first | exact New.refl _ | assumption | refine New.alloc ?_ _ | refine New.drew ?_ | refine New.drewN ?_ _ | refine New.setCell ?_ (by first | omega | (simp; omega) | (simp; done)) _ | refine New.trans ?_ (by assumption)))⟩
  have hm : (n : Int) ≤ 1048576 := by omega
  have hm0 : (0 : Int) ≤ (n : Int) := by omega
  go_enter Try.func9, Try.ntmps9
  go_wp2_with fail
  refine (DrawRemoveBox_any A n c HM.out hnc _ HB.out).mono ?_
  rintro e w1 ⟨B1, m1, d1, zs, x, rfl, I1, l1, kd, xb, N1a⟩
  have s1 := N1a.le
  have N1 := Lib.hid ((New.refl w).trans N1a); clear N1a
  replace I1 := Lib.hid I1
  have HL := Lib.hid I1.out.len
  cases hso : remOk m1 zs x
  · have OK := Lib.hid hso
    have LP : Hid ((remA m1 zs x).length = 0 * 9) := Lib.hid (by unfold remA; rw [hso]; rfl)
    clear hso
    go_wp2_with fail
    refine (RemoveBox_ansT B1 m1 d1 zs x (by omega) _ I1.out).mono ?_
    rw [OK.out]
    rintro e w2 ⟨A2, n2, c2, rfl, l2, r2, N2a⟩
    have s2 := N2a.le
    have I1 := Lib.hid (I1.out.new N2a)
    have N2 := Lib.hid (N1.out.trans N2a); clear N2a
    obtain rfl : 0 = n2 := by have := LP.out; omega
    have R2 := Lib.hid r2; clear l2 r2
    go_wp2_with fail
    refine (SRemoveBox_ansT B1 m1 d1 zs x (by omega) kd _ I1.out).mono ?_
    rw [OK.out]
    rintro e w3 ⟨A3, n3, c3, rfl, l3, r3, N3a⟩
    have s3 := N3a.le
    have I1 := Lib.hid (I1.out.new N3a)
    have R2 := Lib.hid (R2.out.new N3a)
    have N3 := Lib.hid (N2.out.trans N3a); clear N3a
    obtain rfl : 0 = n3 := by have := LP.out; omega
    have R3 := Lib.hid r3; clear l3 r3
    go_wp2_with fail
    refine (equalBoxes_same _ _ 0 _ _ _ (by omega) _ (Sts.of_res R2.out LP.out) (Sts.of_res R3.out LP.out)).mono ?_
    rintro e w4 ⟨rfl, N4a⟩
    have s4 := N4a.le
    have I1 := Lib.hid (I1.out.new N4a)
    have R2 := Lib.hid (R2.out.new N4a)
    have R3 := Lib.hid (R3.out.new N4a)
    have N4 := Lib.hid (N3.out.trans N4a); clear N4a
    go_wp2_with fail
    refine (equalBoxes_same _ _ 0 _ _ _ (by omega) _ (Sts.of_res R2.out LP.out) (Sts.of_res R3.out LP.out)).mono ?_
    rintro e w5 ⟨rfl, N5a⟩
    have s5 := N5a.le
    have I1 := Lib.hid (I1.out.new N5a)
    have R2 := Lib.hid (R2.out.new N5a)
    have R3 := Lib.hid (R3.out.new N5a)
    have N5 := Lib.hid (N4.out.trans N5a); clear N5a
    go_wp2
    go_ret
    exact ⟨by first | rfl | simp, N5.out⟩
  · have OK := Lib.hid hso
    have hn2 := hso
    unfold remOk at hn2
    rw [Bool.and_eq_true] at hn2
    obtain ⟨hv, a, rfl, ha⟩ := nodeOk_iff.1 hn2.1
    have h0 : 0 < a := by have := of_decide_eq_true hn2.2; omega
    have m16 := (vtB_iff.1 hv).1
    have eb := en_bd (zs := zs) ha
    obtain ⟨m, hm⟩ : ∃ m, en zs m1 a = a + m := ⟨en zs m1 a - a, by omega⟩
    have hAL : remA m1 zs (a : Int) = remL m1 zs a := by unfold remA; rw [if_pos hso, Int.toNat_natCast]
    have rv := rem_valid hv HL.out ha h0 hm
    obtain ⟨M, hM⟩ : ∃ M, m1 - m = M := ⟨_, rfl⟩
    have LP : Hid ((remA m1 zs (a : Int)).length = M * 9) := Lib.hid (by rw [hAL, remL_len HL.out ha, hm, ← hM]; congr 1; omega)
    have M16 : M ≤ 16 := by omega
    have a0 : (0 : Int) ≤ (a : Int) := by omega
    have a1 : (a : Int) < (m1 : Int) := by omega
    have ap : (0 : Int) < (a : Int) := by omega
    have da1 : decide (m1 ≤ a) = false := decide_eq_false (by omega)
    have da2 : decide ((m1 : Int) ≤ (a : Int)) = false := decide_eq_false (by omega)
    have da3 : decide ((a : Int) < 0) = false := decide_eq_false (by omega)
    rw [hM] at rv
    clear hso hn2 xb
    have VR : Hid (vtB M (remA m1 zs (a : Int)) = true) := Lib.hid (by rw [hAL]; exact rv)
    have CT : Hid (cntA m1 zs (a : Int) = (m : Int)) := Lib.hid (by rw [cntA_at hv ha, hm]; omega)
    have UP := Lib.hid (fun j (h1 : a ≤ j) (h2 : j + m < m1) r (hr : r < 9) (hr0 : 0 < r) => (show (remA m1 zs (a : Int)).getD (j * 9 + r) 0 = zs.getD ((j + m) * 9 + r) 0 by rw [hAL]; exact rem_up HL.out ha hm h1 h2 hr hr0))
    have TK : Hid ((remA m1 zs (a : Int)).take (a * 9) = zs.take (a * 9)) := Lib.hid (by rw [hAL]; exact rem_take hv HL.out ha hm)
    have mb0 : (1 : Int) ≤ (m : Int) := by omega
    have mb : (m : Int) ≤ 16 := by omega
    have mM : M + m = m1 := by omega
    have am : a ≤ M := by omega
    clear hv hAL rv hM hm eb
    go_wp2_with fail
    refine (RemoveBox_ansR B1 m1 d1 zs (a : Int) (by omega) _ I1.out).mono ?_
    rw [OK.out]
    rintro e w2 ⟨A2, n2, c2, rfl, l2, k2, r2, N2a⟩
    have s2 := N2a.le
    have I1 := Lib.hid (I1.out.new N2a)
    have N2 := Lib.hid (N1.out.trans N2a); clear N2a
    obtain rfl : M = n2 := by have := LP.out; omega
    have R2 := Lib.hid r2; clear l2 r2
    go_wp2_with fail
    refine (SRemoveBox_ansT B1 m1 d1 zs (a : Int) (by omega) kd _ I1.out).mono ?_
    rw [OK.out]
    rintro e w3 ⟨A3, n3, c3, rfl, l3, r3, N3a⟩
    have s3 := N3a.le
    have I1 := Lib.hid (I1.out.new N3a)
    have R2 := Lib.hid (R2.out.new N3a)
    have N3 := Lib.hid (N2.out.trans N3a); clear N3a
    obtain rfl : M = n3 := by have := LP.out; omega
    have R3 := Lib.hid r3; clear l3 r3
    go_wp2_with fail
    refine (equalBoxes_same _ _ M _ _ _ (by omega) _ (Sts.of_res R2.out LP.out) (Sts.of_res R3.out LP.out)).mono ?_
    rintro e w4 ⟨rfl, N4a⟩
    have s4 := N4a.le
    have I1 := Lib.hid (I1.out.new N4a)
    have R2 := Lib.hid (R2.out.new N4a)
    have R3 := Lib.hid (R3.out.new N4a)
    have N4 := Lib.hid (N3.out.trans N4a); clear N4a
    go_wp2_with fail
    refine (CountIn_any B1 m1 d1 zs (a : Int) (by omega) _ I1.out).mono ?_
    rw [CT.out]
    rintro e w5 ⟨rfl, N5a⟩
    have s5 := N5a.le
    have I1 := Lib.hid (I1.out.new N5a)
    have R2 := Lib.hid (R2.out.new N5a)
    have N5 := Lib.hid (N4.out.trans N5a); clear N5a
    have ND := Lib.hid (N5.out)
    have RO := Lib.hid (Sts.of_res R2.out LP.out)
    generalize remA m1 zs (a : Int) = T at *
    go_wp2
    go_loopw [10] (fun i wr => ∃ j : Nat, a ≤ j ∧ j ≤ M ∧ i = .int .i64 j ∧ Hid (New w5 wr)) (fun i _ => M - (intOf i).toNat)
    case atStart => exact ⟨a, Nat.le_refl _, am, rfl, Lib.hid (New.refl _)⟩
    case round =>
      obtain ⟨j, haj, hj, rfl, HW⟩ := hrel
      have j0 : (0 : Int) ≤ (j : Int) := by omega
      have I2 := Lib.hid (I1.out.new HW.out)
      have O2 := Lib.hid (RO.out.new HW.out)
      by_cases hlt : j < M
      · obtain ⟨b, off, e1, hb, hc⟩ := I2.out.at_ (by omega)
        obtain ⟨b2, off2, e2, hb2, hc2⟩ := O2.out.at_ (by omega)
        have UJ := Lib.hid (UP.out j haj (by omega))
        have j1 : (j : Int) < (M : Int) := by omega
        have j2 : (j : Int) + (m : Int) < (m1 : Int) := by omega
        have f0 := hc ((j + m) * 9) (by omega)
        have q0 := hc2 (j * 9) (by omega)
        have f1 := hc ((j + m) * 9 + 1) (by omega)
        have q1 := hc2 (j * 9 + 1) (by omega)
        rw [UJ.out 1 (by omega) (by omega)] at q1
        rw [← Nat.add_assoc] at f1 q1
        generalize zs.getD ((j + m) * 9 + 1) 0 = z1 at f1 q1
        have f2 := hc ((j + m) * 9 + 2) (by omega)
        have q2 := hc2 (j * 9 + 2) (by omega)
        rw [UJ.out 2 (by omega) (by omega)] at q2
        rw [← Nat.add_assoc] at f2 q2
        generalize zs.getD ((j + m) * 9 + 2) 0 = z2 at f2 q2
        have f3 := hc ((j + m) * 9 + 3) (by omega)
        have q3 := hc2 (j * 9 + 3) (by omega)
        rw [UJ.out 3 (by omega) (by omega)] at q3
        rw [← Nat.add_assoc] at f3 q3
        generalize zs.getD ((j + m) * 9 + 3) 0 = z3 at f3 q3
        have f4 := hc ((j + m) * 9 + 4) (by omega)
        have q4 := hc2 (j * 9 + 4) (by omega)
        rw [UJ.out 4 (by omega) (by omega)] at q4
        rw [← Nat.add_assoc] at f4 q4
        generalize zs.getD ((j + m) * 9 + 4) 0 = z4 at f4 q4
        have f5 := hc ((j + m) * 9 + 5) (by omega)
        have q5 := hc2 (j * 9 + 5) (by omega)
        rw [UJ.out 5 (by omega) (by omega)] at q5
        rw [← Nat.add_assoc] at f5 q5
        generalize zs.getD ((j + m) * 9 + 5) 0 = z5 at f5 q5
        have f6 := hc ((j + m) * 9 + 6) (by omega)
        have q6 := hc2 (j * 9 + 6) (by omega)
        rw [UJ.out 6 (by omega) (by omega)] at q6
        rw [← Nat.add_assoc] at f6 q6
        generalize zs.getD ((j + m) * 9 + 6) 0 = z6 at f6 q6
        have f7 := hc ((j + m) * 9 + 7) (by omega)
        have q7 := hc2 (j * 9 + 7) (by omega)
        rw [UJ.out 7 (by omega) (by omega)] at q7
        rw [← Nat.add_assoc] at f7 q7
        generalize zs.getD ((j + m) * 9 + 7) 0 = z7 at f7 q7
        have f8 := hc ((j + m) * 9 + 8) (by omega)
        have q8 := hc2 (j * 9 + 8) (by omega)
        rw [UJ.out 8 (by omega) (by omega)] at q8
        rw [← Nat.add_assoc] at f8 q8
        generalize zs.getD ((j + m) * 9 + 8) 0 = z8 at f8 q8
        generalize zs.getD ((j + m) * 9) 0 = z0 at f0
        generalize T.getD (j * 9) 0 = p0 at q0
        subst e1 e2
        clear hc hc2
        go_wp2
        go_quiet (fail)
        go_wp2
        go_roundw
        case rel => exact ⟨j + 1, by omega, by omega, by go_num, Lib.hid (by (repeat (first | exact New.refl _ | assumption | refine New.alloc ?_ _ | refine New.drew ?_ | refine New.drewN ?_ _ | refine New.setCell ?_ (by first | omega | (simp; omega) | (simp; done)) _ | refine New.trans ?_ (by assumption))))⟩
        case measure => simp [intOf]; omega
      · obtain rfl : M = j := by omega
        obtain ⟨b, off, e1, hb, hc⟩ := I2.out.at_ (by omega)
        obtain ⟨b2, off2, e2, hb2, hc2⟩ := O2.out.at_ (by omega)
        subst e1 e2
        clear hc hc2 hb hb2
        have HD := Lib.hid HW.out.drew
        have P1 := Lib.hid ((I1.out.new HD.out).pref (show a ≤ m1 by omega))
        have P2 := Lib.hid ((RO.out.new HD.out).pref (show a ≤ M by omega))
        rw [TK.out] at P2
        have O9 := Lib.hid (RO.out.new HD.out)
        have c1 : (a : Int) ≤ (c2 : Int) := by omega
        have c3_ : (M : Int) ≤ (c2 : Int) := by omega
        have c4 : (a : Int) ≤ (d1 : Int) := by omega
        have c5 : (m1 : Int) ≤ (d1 : Int) := by omega
        have c6 : (a : Int) ≤ (M : Int) := by omega
        have mw : IntKind.i64.wrap (M : Int) = (M : Int) := IntWalk.i64_in _ (by omega)
        have nmm : (m1 : Int) - (m : Int) = (M : Int) := by omega
        go_wp2
        go_region_held3 (fun _ => True)
          (first | exact True.intro | assumption)
          (first
            | (go_at_call 30; refine (equalBoxes_same _ _ a _ _ (zs.take (a * 9)) (by omega) _ P2.out P1.out).mono ?_; rintro e we ⟨rfl, Ne⟩; (have O8 := Lib.hid (O9.out.new Ne)); (have NQ := Lib.hid Ne); clear Ne)
            | (go_at_call 34; refine (ValidTree_any _ M c2 T (by omega) _ O8.out).mono ?_; rw [VR.out]; rintro e wf ⟨rfl, Nf⟩; (replace Nf := Lib.hid (HD.out.trans (NQ.out.trans Nf)))))
        go_wp2
        go_ret
        exact ⟨by first | rfl | simp, ND.out.trans Nf.out⟩
end Go.Proofs.Ytnihklilappimaa
