/- The law FnPaintAreaJoin, walked: for every code. Condition: the code can be read. -/
import Derived.Test.YtckdokijmlpngaaDrawRc
import Derived.Test.YtckdokijmlpngaaPaiI
import Derived.Test.YtckdokijmlpngaaPaiS
import Derived.Test.YtckdokijmlpngaaPaiP
import Derived.Test.YtckdokijmlpngaaJoiI
import Derived.Test.YtckdokijmlpngaaJoiP
namespace Go.Proofs.Ytckdokijmlpngaa
open Go.RowKit

set_option maxRecDepth 100000 in
set_option maxHeartbeats 4000000 in
theorem lawPaintAreaJoin (A : Option Addr) (n c : Nat) (hn : n ≤ maxLen) (hnc : n ≤ c) (w : World) (hb : Bytes w A n) :
    Calls Try.prog 14 #[.slice A n c] w fun e w' => e = .returned (.bool true) ∧ New w w' := by
  have HB := Lib.hid hb; have HM := Lib.hid hn
  clear hb
  unfold maxLen at hn
  by_cases hbig : 1048576 < n
  · go_enter Try.func14, Try.ntmps14
    go_wp2
    go_ret
    exact ⟨rfl, by (repeat (first | exact New.refl _ | assumption | refine New.alloc ?_ _ | refine New.drew ?_ | refine New.drewN ?_ _ | refine New.setCell ?_ (by first | omega | (simp; omega) | (simp; done)) _ | refine New.trans ?_ (by assumption)))⟩
  have hm : (n : Int) ≤ 1048576 := by omega
  have hm0 : (0 : Int) ≤ (n : Int) := by omega
  go_enter Try.func14, Try.ntmps14
  go_wp2_with fail
  refine (DrawPaintArea_any A n c HM.out hnc _ HB.out).mono ?_
  rintro e w1 ⟨B1, m1, d1, xs, rfl, I1, dc1, l1, N1a⟩
  have s1 := N1a.le
  have N1 := Lib.hid ((New.refl w).trans N1a); clear N1a
  replace I1 := Lib.hid I1
  have y0 : (0 : Int) ≤ (m1 : Int) := by omega
  have y1 : (m1 : Int) ≤ 7 := by omega
  obtain ⟨z, HZ⟩ : ∃ z, Hid (paA m1 xs = z) := ⟨_, Lib.hid rfl⟩
  go_wp2_with fail
  refine (PaintArea_any B1 m1 d1 xs (by omega) dc1 _ I1.out).mono ?_
  rw [HZ.out]
  rintro e w2 ⟨rfl, N2a⟩
  have s2 := N2a.le
  have I1 := Lib.hid (I1.out.new N2a)
  have N2 := Lib.hid (N1.out.trans N2a); clear N2a
  go_wp2_with fail
  refine (SPaintArea_any B1 m1 d1 xs (by omega) _ I1.out).mono ?_
  rw [HZ.out]
  rintro e w3 ⟨rfl, N3a⟩
  have s3 := N3a.le
  have I1 := Lib.hid (I1.out.new N3a)
  have N3 := Lib.hid (N2.out.trans N3a); clear N3a
  cases hpa : paB m1 xs
  · have hz : z = -1 := HZ.out.symm.trans (paA_no hpa)
    subst hz
    go_wp2_with fail
    refine (SPaintArea_any B1 m1 d1 xs (by omega) _ I1.out).mono ?_
    rw [HZ.out]
    rintro e w4 ⟨rfl, N4a⟩
    have s4 := N4a.le
    have I1 := Lib.hid (I1.out.new N4a)
    have N4 := Lib.hid (N3.out.trans N4a); clear N4a
    go_wp2
    go_ret
    exact ⟨rfl, N4.out⟩
  obtain ⟨n6, ok1, ok2⟩ := paB_iff.1 hpa
  have hz : arTo xs m1 = z := (paA_yes hpa).symm.trans HZ.out
  have zb := arTo_bd ok1 ok2
  rw [hz] at zb
  have HA := Lib.hid hz; have OK1 := Lib.hid ok1; have OK2 := Lib.hid ok2
  have z0 : ¬ z < 0 := by omega
  have zd : decide (z < 0) = false := decide_eq_false z0
  clear hpa hz ok1 ok2
  go_wp2_with fail
  refine (JoinPaint_ansK B1 m1 d1 xs (by omega) _ I1.out).mono ?_
  rintro e w4 ⟨A4, m4_, c4, rfl, l4_, q4, r4, N4a⟩
  have s4 := N4a.le
  have I1 := Lib.hid (I1.out.new N4a)
  have N4 := Lib.hid (N3.out.trans N4a); clear N4a
  cases hjb : jB m1 xs
  · rw [jA_no hjb] at l4_ r4
    obtain rfl : m4_ = 0 := by simp at l4_; omega
    have R4 := Lib.hid r4
    go_wp2_with fail
    refine (PaintArea_any A4 0 c4 [] (by omega) (by omega) _ (Sts.of_res (m := 3) R4.out (by simp))).mono ?_
    rintro e w5 ⟨rfl, N5⟩
    have N5 := Lib.hid (N4.out.trans N5)
    go_wp2
    go_ret
    exact ⟨rfl, N5.out⟩
  obtain ⟨_, hk1, hk2⟩ := jB_iff.1 hjb
  have KP := kept hk1 hk2
  have JN := Lib.hid (joined hk1 hk2)
  have hja := jA_yes hjb
  rw [hja] at l4_ r4
  have R4 := Lib.hid r4
  have kl := KP.len; have km := KP.le; have KO := Lib.hid KP.ok
  obtain rfl : m4_ = (jTo xs m1).2 := by omega
  generalize (jTo xs m1).1 = out at *
  generalize (jTo xs m1).2 = m4_ at *
  have S4 := Lib.hid (Sts.of_res (m := 3) R4.out l4_)
  obtain ⟨v, HV⟩ : ∃ v, Hid (paA m4_ out = v) := ⟨_, Lib.hid rfl⟩
  have KEY : Hid (¬ v < 0 → z ≤ v) := Lib.hid (fun hv => by
    cases hpo : paB m4_ out
    · have := (paA_no hpo).symm.trans HV.out; omega
    · obtain ⟨_, o1, o2⟩ := paB_iff.1 hpo
      rw [← HV.out, paA_yes hpo, ← HA.out]
      exact join_ge OK1.out OK2.out o1 o2 JN.out)
  clear hk1 hk2 KP hja l4_ r4 kl KO JN hjb
  go_wp2_with fail
  refine (PaintArea_any A4 m4_ c4 out (by omega) q4 _ S4.out).mono ?_
  rw [HV.out]
  rintro e w5 ⟨rfl, N5⟩
  have N5 := Lib.hid (N4.out.trans N5)
  by_cases hv : v < 0
  · go_wp2
    go_ret
    exact ⟨rfl, N5.out⟩
  · have hle := KEY.out (by omega)
    go_wp2
    go_ret
    exact ⟨rfl, N5.out⟩
end Go.Proofs.Ytckdokijmlpngaa
