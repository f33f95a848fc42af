/- The law FnPushTaskOrder, walked: two tasks pushed in either order make the same queue. Condition: the code can be read. -/
import Derived.Test.YtecnhjofgkhlnaaDrawQu
import Derived.Test.YtecnhjofgkhlnaaPshS
import Derived.Test.YtecnhjofgkhlnaaTaskQ
import Derived.Test.YtecnhjofgkhlnaaTkL
namespace Go.Proofs.Ytecnhjofgkhlnaa
open Go.RowKit

set_option maxHeartbeats 4000000 in
theorem lawPushTaskOrder (A : Option Addr) (n c : Nat) (hn : n ≤ maxLen) (hnc : n ≤ c) (w : World) (hb : Bytes w A n) :
    Calls Try.prog 14 #[.slice A n c] w fun e w' => e = .returned (.bool true) ∧ New w w' := by
  have HB := Lib.hid hb; have HM := Lib.hid hn
  clear hb
  unfold maxLen at hn
  by_cases hbig : 1048576 < n
  · go_enter Try.func14, Try.ntmps14
    go_wp2
    go_ret
    exact ⟨rfl, by (repeat (first | exact New.refl _ | assumption | refine New.alloc ?_ _ | refine New.drew ?_ | refine New.drewN ?_ _ | refine New.setCell ?_ (by first | omega | (simp; omega) | (simp; done)) _ | refine New.trans ?_ (by assumption)))⟩
  have hm : (n : Int) ≤ 1048576 := by omega
  have hm0 : (0 : Int) ≤ (n : Int) := by omega
  go_enter Try.func14, Try.ntmps14
  go_wp2_with fail
  refine (DrawPushTask_any A n c HM.out hnc _ HB.out).mono ?_
  rintro e w1 ⟨B1, m1, d1, zs, x, y, rfl, I1, kd, k11, N1a⟩
  have s1 := N1a.le
  have N1 := Lib.hid ((New.refl w).trans N1a); clear N1a
  have HL := Lib.hid I1.len
  have m11 : (m1 : Int) ≤ 11 := by omega
  have m0 : (0 : Int) ≤ (m1 : Int) := by omega
  replace I1 := Lib.hid I1
  cases hok : psOk m1 zs x y
  · have OK := Lib.hid hok
    have LP : Hid ((psA m1 zs x y).length = 0 * 3) := Lib.hid (by rw [psA_no hok]; rfl)
    clear hok
    go_wp2_with fail
    refine (PushTask_ansT B1 m1 d1 zs x y (by omega) _ I1.out).mono ?_
    rw [OK.out]
    rintro e w2 ⟨A2, n2, c2, rfl, l2, r2, N2a⟩
    have s2 := N2a.le
    have I1 := Lib.hid (I1.out.new N2a)
    have N2 := Lib.hid (N1.out.trans N2a); clear N2a
    obtain rfl : 0 = n2 := by have := LP.out; omega
    have R2 := Lib.hid r2; clear l2 r2
    go_wp2_with fail
    refine (SPushTask_ansT B1 m1 d1 zs x y (by omega) _ I1.out).mono ?_
    rw [OK.out]
    rintro e w3 ⟨A3, n3, c3, rfl, l3, r3, N3a⟩
    have s3 := N3a.le
    have I1 := Lib.hid (I1.out.new N3a)
    have R2 := Lib.hid (R2.out.new N3a)
    have N3 := Lib.hid (N2.out.trans N3a); clear N3a
    obtain rfl : 0 = n3 := by have := LP.out; omega
    have R3 := Lib.hid r3; clear l3 r3
    go_wp2_with fail
    refine (equalTasks_same _ _ 0 _ _ _ (by omega) _ (Sts.of_res R2.out LP.out) (Sts.of_res R3.out LP.out)).mono ?_
    rintro e w4 ⟨rfl, N4a⟩
    have s4 := N4a.le
    have I1 := Lib.hid (I1.out.new N4a)
    have R2 := Lib.hid (R2.out.new N4a)
    have R3 := Lib.hid (R3.out.new N4a)
    have N4 := Lib.hid (N3.out.trans N4a); clear N4a
    go_wp2_with fail
    refine (equalTasks_same _ _ 0 _ _ _ (by omega) _ (Sts.of_res R2.out LP.out) (Sts.of_res R3.out LP.out)).mono ?_
    rintro e w5 ⟨rfl, N5a⟩
    have s5 := N5a.le
    have I1 := Lib.hid (I1.out.new N5a)
    have R2 := Lib.hid (R2.out.new N5a)
    have R3 := Lib.hid (R3.out.new N5a)
    have N5 := Lib.hid (N4.out.trans N5a); clear N5a
    go_wp2
    go_ret
    exact ⟨by first | rfl | simp, N5.out⟩
  · have OK := Lib.hid hok
    have ES := Lib.hid (psA_yes hok)
    have PO := ps_ok hok
    have pv := psV_iff.1 PO.1
    have n10 := (vtk_at pv.1).1
    have LPL := psL_len (d := x) (r := y) pv.1
    obtain ⟨L, hL⟩ : ∃ L, psL zs m1 x y = L := ⟨_, rfl⟩
    obtain ⟨M, hM⟩ : ∃ M, L.length = M := ⟨_, rfl⟩
    have M11 : M ≤ 11 := by rw [hL, hM] at LPL; split at LPL <;> omega
    have LP : Hid ((psA m1 zs x y).length = M * 3) := Lib.hid (by rw [ES.out, flL_len, hL, hM])
    have LF : Hid ((flL L).length = M * 3) := Lib.hid (by rw [flL_len, hM])
    by_cases h41 : x = 41
    · subst h41; clear hok PO pv LPL hL hM
      go_wp2_with fail
      refine (PushTask_ansT B1 m1 d1 zs 41 y (by omega) _ I1.out).mono ?_
      rw [OK.out]
      rintro e w2 ⟨A2, n2, c2, rfl, l2, r2, N2a⟩
      have s2 := N2a.le
      have I1 := Lib.hid (I1.out.new N2a)
      have N2 := Lib.hid (N1.out.trans N2a); clear N2a
      obtain rfl : M = n2 := by have := LP.out; omega
      have R2 := Lib.hid r2; clear l2 r2
      go_wp2_with fail
      refine (SPushTask_ansT B1 m1 d1 zs 41 y (by omega) _ I1.out).mono ?_
      rw [OK.out]
      rintro e w3 ⟨A3, n3, c3, rfl, l3, r3, N3a⟩
      have s3 := N3a.le
      have I1 := Lib.hid (I1.out.new N3a)
      have R2 := Lib.hid (R2.out.new N3a)
      have N3 := Lib.hid (N2.out.trans N3a); clear N3a
      obtain rfl : M = n3 := by have := LP.out; omega
      have R3 := Lib.hid r3; clear l3 r3
      go_wp2_with fail
      refine (equalTasks_same _ _ M _ _ _ (by omega) _ (Sts.of_res R2.out LP.out) (Sts.of_res R3.out LP.out)).mono ?_
      rintro e w4 ⟨rfl, N4a⟩
      have s4 := N4a.le
      have I1 := Lib.hid (I1.out.new N4a)
      have R2 := Lib.hid (R2.out.new N4a)
      have R3 := Lib.hid (R3.out.new N4a)
      have N4 := Lib.hid (N3.out.trans N4a); clear N4a
      go_wp2_with fail
      refine (equalTasks_same _ _ M _ _ _ (by omega) _ (Sts.of_res R2.out LP.out) (Sts.of_res R3.out LP.out)).mono ?_
      rintro e w5 ⟨rfl, N5a⟩
      have s5 := N5a.le
      have I1 := Lib.hid (I1.out.new N5a)
      have R2 := Lib.hid (R2.out.new N5a)
      have R3 := Lib.hid (R3.out.new N5a)
      have N5 := Lib.hid (N4.out.trans N5a); clear N5a
      go_wp2
      go_ret
      exact ⟨by first | rfl | simp, N5.out⟩
    · have xb : (x == 41) = false := by simpa using h41
      have ORD := Lib.hid (fun h2 h3 => ps_order (e := 41) (s := 8) hok h41 h2 h3)
      rw [hL, hM] at ORD
      rw [hL] at ES
      obtain ⟨K1, hk1, k11'⟩ := psA_mul M (flL L) 41 8
      obtain ⟨K2, hk2, k12⟩ := psA_mul m1 zs 41 8
      obtain ⟨K3, hk3, k13⟩ := psA_mul K2 (psA m1 zs 41 8) x y
      have H1 := Lib.hid hk1; have H2 := Lib.hid hk2; have H3 := Lib.hid hk3
      obtain ⟨b1, hb1⟩ : ∃ b, psOk M (flL L) 41 8 = b := ⟨_, rfl⟩
      obtain ⟨b2, hb2⟩ : ∃ b, psOk m1 zs 41 8 = b := ⟨_, rfl⟩
      obtain ⟨b3, hb3⟩ : ∃ b, psOk K2 (psA m1 zs 41 8) x y = b := ⟨_, rfl⟩
      have O1 := Lib.hid hb1; have O2 := Lib.hid hb2; have O3 := Lib.hid hb3
      have BB : Hid (b1 = true → b2 = true → b3 = true ∧ psA M (flL L) 41 8 = psA K2 (psA m1 zs 41 8) x y) := Lib.hid (fun h1 h2 => by
        rw [h1] at hb1; rw [h2] at hb2
        obtain ⟨q1, q2⟩ := ORD.out hb1 hb2
        have e2 := psA_yes hb2
        have eK : K2 = (psL zs m1 41 8).length := by rw [e2, flL_len] at hk2; omega
        rw [← hb3, e2, eK]
        refine ⟨q1, ?_⟩
        rw [psA_yes hb1, psA_yes q1, q2])
      clear hok PO pv LPL hL hM ORD hk1 hk2 hk3 hb1 hb2 hb3 h41
      go_wp2_with fail
      refine (PushTask_ansT B1 m1 d1 zs x y (by omega) _ I1.out).mono ?_
      rw [OK.out]
      rintro e w2 ⟨A2, n2, c2, rfl, l2, r2, N2a⟩
      have s2 := N2a.le
      have I1 := Lib.hid (I1.out.new N2a)
      have N2 := Lib.hid (N1.out.trans N2a); clear N2a
      obtain rfl : M = n2 := by have := LP.out; omega
      have R2 := Lib.hid r2; clear l2 r2
      go_wp2_with fail
      refine (SPushTask_ansT B1 m1 d1 zs x y (by omega) _ I1.out).mono ?_
      rw [OK.out]
      rintro e w3 ⟨A3, n3, c3, rfl, l3, r3, N3a⟩
      have s3 := N3a.le
      have I1 := Lib.hid (I1.out.new N3a)
      have R2 := Lib.hid (R2.out.new N3a)
      have N3 := Lib.hid (N2.out.trans N3a); clear N3a
      obtain rfl : M = n3 := by have := LP.out; omega
      have R3 := Lib.hid r3; clear l3 r3
      go_wp2_with fail
      refine (equalTasks_same _ _ M _ _ _ (by omega) _ (Sts.of_res R2.out LP.out) (Sts.of_res R3.out LP.out)).mono ?_
      rintro e w4 ⟨rfl, N4a⟩
      have s4 := N4a.le
      have I1 := Lib.hid (I1.out.new N4a)
      have R2 := Lib.hid (R2.out.new N4a)
      have R3 := Lib.hid (R3.out.new N4a)
      have N4 := Lib.hid (N3.out.trans N4a); clear N4a
      replace R2 := Lib.hid (ES.out ▸ R2.out)
      go_wp2_with fail
      refine (PushTask_ansT A2 M c2 (flL L) 41 8 (by omega) _ (Sts.of_res R2.out LF.out)).mono ?_
      rw [O1.out]
      rintro e w5 ⟨A5, n5, c5, rfl, l5, r5, N5a⟩
      have s5 := N5a.le
      have I1 := Lib.hid (I1.out.new N5a)
      have R2 := Lib.hid (R2.out.new N5a)
      have R3 := Lib.hid (R3.out.new N5a)
      have N5 := Lib.hid (N4.out.trans N5a); clear N5a
      obtain rfl : K1 = n5 := by have := H1.out; omega
      have R5 := Lib.hid r5; clear l5 r5
      go_wp2_with fail
      refine (PushTask_ansT B1 m1 d1 zs 41 8 (by omega) _ I1.out).mono ?_
      rw [O2.out]
      rintro e w6 ⟨A6, n6, c6, rfl, l6, r6, N6a⟩
      have s6 := N6a.le
      have I1 := Lib.hid (I1.out.new N6a)
      have R2 := Lib.hid (R2.out.new N6a)
      have R3 := Lib.hid (R3.out.new N6a)
      have R5 := Lib.hid (R5.out.new N6a)
      have N6 := Lib.hid (N5.out.trans N6a); clear N6a
      obtain rfl : K2 = n6 := by have := H2.out; omega
      have R6 := Lib.hid r6; clear l6 r6
      go_wp2_with fail
      refine (PushTask_ansT A6 K2 c6 (psA m1 zs 41 8) x y (by omega) _ (Sts.of_res R6.out H2.out)).mono ?_
      rw [O3.out]
      rintro e w7 ⟨A7, n7, c7, rfl, l7, r7, N7a⟩
      have s7 := N7a.le
      have I1 := Lib.hid (I1.out.new N7a)
      have R2 := Lib.hid (R2.out.new N7a)
      have R3 := Lib.hid (R3.out.new N7a)
      have R5 := Lib.hid (R5.out.new N7a)
      have R6 := Lib.hid (R6.out.new N7a)
      have N7 := Lib.hid (N6.out.trans N7a); clear N7a
      obtain rfl : K3 = n7 := by have := H3.out; omega
      have R7 := Lib.hid r7; clear l7 r7
      cases b1
      · skip
        go_wp2
        go_ret
        exact ⟨by first | rfl | simp, N7.out⟩
      · cases b2
        · skip
          go_wp2
          go_ret
          exact ⟨by first | rfl | simp, N7.out⟩
        · obtain ⟨e3, eL⟩ := BB.out rfl rfl
          subst e3
          have EL := Lib.hid eL
          have K13 : K3 = K1 := by have h1 := H1.out; have h3 := H3.out; rw [eL] at h1; omega
          clear eL
          subst K13
          replace R5 := Lib.hid (EL.out ▸ R5.out)
          go_wp2_with fail
          refine (equalTasks_same _ _ K3 _ _ _ (by omega) _ (Sts.of_res R5.out H3.out) (Sts.of_res R7.out H3.out)).mono ?_
          rintro e w8 ⟨rfl, N8a⟩
          have s8 := N8a.le
          have I1 := Lib.hid (I1.out.new N8a)
          have R2 := Lib.hid (R2.out.new N8a)
          have R3 := Lib.hid (R3.out.new N8a)
          have R5 := Lib.hid (R5.out.new N8a)
          have R6 := Lib.hid (R6.out.new N8a)
          have R7 := Lib.hid (R7.out.new N8a)
          have N8 := Lib.hid (N7.out.trans N8a); clear N8a
          go_wp2
          go_ret
          exact ⟨by first | rfl | simp, N8.out⟩
end Go.Proofs.Ytecnhjofgkhlnaa
