/- The law FnPushTaskTwice, walked: pushing twice is pushing the smaller rank. Condition: the code can be read. -/
import Derived.Test.YtecnhjofgkhlnaaDrawQu
import Derived.Test.YtecnhjofgkhlnaaPshS
import Derived.Test.YtecnhjofgkhlnaaTaskQ
import Derived.Test.YtecnhjofgkhlnaaTkL
namespace Go.Proofs.Ytecnhjofgkhlnaa
open Go.RowKit

set_option maxHeartbeats 4000000 in
theorem lawPushTaskTwice (A : Option Addr) (n c : Nat) (hn : n ≤ maxLen) (hnc : n ≤ c) (w : World) (hb : Bytes w A n) :
    Calls Try.prog 11 #[.slice A n c] w fun e w' => e = .returned (.bool true) ∧ New w w' := by
  have HB := Lib.hid hb; have HM := Lib.hid hn
  clear hb
  unfold maxLen at hn
  by_cases hbig : 1048576 < n
  · go_enter Try.func11, Try.ntmps11
    go_wp2
    go_ret
    exact ⟨rfl, by (repeat (first | exact New.refl _ | assumption | refine New.alloc ?_ _ | refine New.drew ?_ | refine New.drewN ?_ _ | refine New.setCell ?_ (by first | omega | (simp; omega) | (simp; done)) _ | refine New.trans ?_ (by assumption)))⟩
  have hm : (n : Int) ≤ 1048576 := by omega
  have hm0 : (0 : Int) ≤ (n : Int) := by omega
  go_enter Try.func11, Try.ntmps11
  go_wp2_with fail
  refine (DrawPushTask_any A n c HM.out hnc _ HB.out).mono ?_
  rintro e w1 ⟨B1, m1, d1, zs, x, y, rfl, I1, kd, k11, N1a⟩
  have s1 := N1a.le
  have N1 := Lib.hid ((New.refl w).trans N1a); clear N1a
  have HL := Lib.hid I1.len
  have m11 : (m1 : Int) ≤ 11 := by omega
  have m0 : (0 : Int) ≤ (m1 : Int) := by omega
  replace I1 := Lib.hid I1
  cases hok : psOk m1 zs x y
  · have OK := Lib.hid hok
    have LP : Hid ((psA m1 zs x y).length = 0 * 3) := Lib.hid (by rw [psA_no hok]; rfl)
    clear hok
    go_wp2_with fail
    refine (PushTask_ansT B1 m1 d1 zs x y (by omega) _ I1.out).mono ?_
    rw [OK.out]
    rintro e w2 ⟨A2, n2, c2, rfl, l2, r2, N2a⟩
    have s2 := N2a.le
    have I1 := Lib.hid (I1.out.new N2a)
    have N2 := Lib.hid (N1.out.trans N2a); clear N2a
    obtain rfl : 0 = n2 := by have := LP.out; omega
    have R2 := Lib.hid r2; clear l2 r2
    go_wp2_with fail
    refine (SPushTask_ansT B1 m1 d1 zs x y (by omega) _ I1.out).mono ?_
    rw [OK.out]
    rintro e w3 ⟨A3, n3, c3, rfl, l3, r3, N3a⟩
    have s3 := N3a.le
    have I1 := Lib.hid (I1.out.new N3a)
    have R2 := Lib.hid (R2.out.new N3a)
    have N3 := Lib.hid (N2.out.trans N3a); clear N3a
    obtain rfl : 0 = n3 := by have := LP.out; omega
    have R3 := Lib.hid r3; clear l3 r3
    go_wp2_with fail
    refine (equalTasks_same _ _ 0 _ _ _ (by omega) _ (Sts.of_res R2.out LP.out) (Sts.of_res R3.out LP.out)).mono ?_
    rintro e w4 ⟨rfl, N4a⟩
    have s4 := N4a.le
    have I1 := Lib.hid (I1.out.new N4a)
    have R2 := Lib.hid (R2.out.new N4a)
    have R3 := Lib.hid (R3.out.new N4a)
    have N4 := Lib.hid (N3.out.trans N4a); clear N4a
    go_wp2_with fail
    refine (equalTasks_same _ _ 0 _ _ _ (by omega) _ (Sts.of_res R2.out LP.out) (Sts.of_res R3.out LP.out)).mono ?_
    rintro e w5 ⟨rfl, N5a⟩
    have s5 := N5a.le
    have I1 := Lib.hid (I1.out.new N5a)
    have R2 := Lib.hid (R2.out.new N5a)
    have R3 := Lib.hid (R3.out.new N5a)
    have N5 := Lib.hid (N4.out.trans N5a); clear N5a
    go_wp2
    go_ret
    exact ⟨by first | rfl | simp, N5.out⟩
  · have OK := Lib.hid hok
    have ES := Lib.hid (psA_yes hok)
    have PO := ps_ok hok
    have pv := psV_iff.1 PO.1
    have n10 := (vtk_at pv.1).1
    have LPL := psL_len (d := x) (r := y) pv.1
    obtain ⟨L, hL⟩ : ∃ L, psL zs m1 x y = L := ⟨_, rfl⟩
    obtain ⟨M, hM⟩ : ∃ M, L.length = M := ⟨_, rfl⟩
    have M11 : M ≤ 11 := by rw [hL, hM] at LPL; split at LPL <;> omega
    have LP : Hid ((psA m1 zs x y).length = M * 3) := Lib.hid (by rw [ES.out, flL_len, hL, hM])
    have LF : Hid ((flL L).length = M * 3) := Lib.hid (by rw [flL_len, hM])
    obtain ⟨t1, t2, t3⟩ := ps_twice (s := 6) hok (by omega)
    rw [hL, hM] at t1 t3
    have T1 := Lib.hid t1
    have T2 : Hid (psOk m1 zs x (mn y 6) = true) := Lib.hid t2
    obtain ⟨K, hK⟩ : ∃ K, (psL (flL L) M x 6).length = K := ⟨_, rfl⟩
    have EA1 := Lib.hid (psA_yes t1)
    have EA2 : Hid (psA m1 zs x (mn y 6) = flL (psL (flL L) M x 6)) := Lib.hid ((psA_yes T2.out).trans (by rw [t3]; rfl))
    have K1 : Hid ((psA M (flL L) x 6).length = K * 3) := Lib.hid (by rw [EA1.out, flL_len, hK])
    have K2 : Hid ((psA m1 zs x (mn y 6)).length = K * 3) := Lib.hid (by rw [EA2.out, flL_len, hK])
    have KL : Hid ((flL (psL (flL L) M x 6)).length = K * 3) := Lib.hid (by rw [flL_len, hK])
    have k12 : K ≤ 12 := by obtain ⟨M', h1, h2⟩ := psA_mul M (flL L) x 6; have := K1.out; omega
    rw [hL] at ES
    have hmn := run_mn Try.prog
    clear hok PO pv LPL hL t1 t2 t3 hM hK
    go_wp2_with fail
    refine (PushTask_ansT B1 m1 d1 zs x y (by omega) _ I1.out).mono ?_
    rw [OK.out]
    rintro e w2 ⟨A2, n2, c2, rfl, l2, r2, N2a⟩
    have s2 := N2a.le
    have I1 := Lib.hid (I1.out.new N2a)
    have N2 := Lib.hid (N1.out.trans N2a); clear N2a
    obtain rfl : M = n2 := by have := LP.out; omega
    have R2 := Lib.hid r2; clear l2 r2
    go_wp2_with fail
    refine (SPushTask_ansT B1 m1 d1 zs x y (by omega) _ I1.out).mono ?_
    rw [OK.out]
    rintro e w3 ⟨A3, n3, c3, rfl, l3, r3, N3a⟩
    have s3 := N3a.le
    have I1 := Lib.hid (I1.out.new N3a)
    have R2 := Lib.hid (R2.out.new N3a)
    have N3 := Lib.hid (N2.out.trans N3a); clear N3a
    obtain rfl : M = n3 := by have := LP.out; omega
    have R3 := Lib.hid r3; clear l3 r3
    go_wp2_with fail
    refine (equalTasks_same _ _ M _ _ _ (by omega) _ (Sts.of_res R2.out LP.out) (Sts.of_res R3.out LP.out)).mono ?_
    rintro e w4 ⟨rfl, N4a⟩
    have s4 := N4a.le
    have I1 := Lib.hid (I1.out.new N4a)
    have R2 := Lib.hid (R2.out.new N4a)
    have R3 := Lib.hid (R3.out.new N4a)
    have N4 := Lib.hid (N3.out.trans N4a); clear N4a
    replace R2 := Lib.hid (ES.out ▸ R2.out)
    go_wp2_with fail
    refine (PushTask_ansT A2 M c2 (flL L) x 6 (by omega) _ (Sts.of_res R2.out LF.out)).mono ?_
    rw [T1.out]
    rintro e w5 ⟨A5, n5, c5, rfl, l5, r5, N5a⟩
    have s5 := N5a.le
    have I1 := Lib.hid (I1.out.new N5a)
    have R2 := Lib.hid (R2.out.new N5a)
    have R3 := Lib.hid (R3.out.new N5a)
    have N5 := Lib.hid (N4.out.trans N5a); clear N5a
    obtain rfl : K = n5 := by have := K1.out; omega
    have R5 := Lib.hid r5; clear l5 r5
    go_wp2_with fail
    refine (PushTask_ansT B1 m1 d1 zs x (mn y 6) (by omega) _ I1.out).mono ?_
    rw [T2.out]
    rintro e w6 ⟨A6, n6, c6, rfl, l6, r6, N6a⟩
    have s6 := N6a.le
    have I1 := Lib.hid (I1.out.new N6a)
    have R2 := Lib.hid (R2.out.new N6a)
    have R3 := Lib.hid (R3.out.new N6a)
    have R5 := Lib.hid (R5.out.new N6a)
    have N6 := Lib.hid (N5.out.trans N6a); clear N6a
    obtain rfl : K = n6 := by have := K2.out; omega
    have R6 := Lib.hid r6; clear l6 r6
    replace R5 := Lib.hid (EA1.out ▸ R5.out); replace R6 := Lib.hid (EA2.out ▸ R6.out)
    go_wp2_with fail
    refine (equalTasks_same _ _ K _ _ _ (by omega) _ (Sts.of_res R5.out KL.out) (Sts.of_res R6.out KL.out)).mono ?_
    rintro e w7 ⟨rfl, N7a⟩
    have s7 := N7a.le
    have I1 := Lib.hid (I1.out.new N7a)
    have R2 := Lib.hid (R2.out.new N7a)
    have R3 := Lib.hid (R3.out.new N7a)
    have R5 := Lib.hid (R5.out.new N7a)
    have R6 := Lib.hid (R6.out.new N7a)
    have N7 := Lib.hid (N6.out.trans N7a); clear N7a
    go_wp2
    go_ret
    exact ⟨by first | rfl | simp, N7.out⟩
end Go.Proofs.Ytecnhjofgkhlnaa
