/- The law FnCommonBoxOrder, walked: the order of two boxes does not matter, and a box is its own common box. Condition: the code can be read. -/
import Derived.Test.YtohjfddmnhnfjaaDrawPt
import Derived.Test.YtohjfddmnhnfjaaPathP
namespace Go.Proofs.Ytohjfddmnhnfjaa
open Go.RowKit

set_option maxHeartbeats 4000000 in
theorem lawCommonBoxOrder (A : Option Addr) (n c : Nat) (hn : n ≤ maxLen) (hnc : n ≤ c) (w : World) (hb : Bytes w A n) :
    Calls Try.prog 10 #[.slice A n c] w fun e w' => e = .returned (.bool true) ∧ New w w' := by
  have HB := Lib.hid hb; have HM := Lib.hid hn
  clear hb
  unfold maxLen at hn
  by_cases hbig : 1048576 < n
  · go_enter Try.func10, Try.ntmps10
    go_wp2
    go_ret
    exact ⟨rfl, by (repeat (first | exact New.refl _ | assumption | refine New.alloc ?_ _ | refine New.drew ?_ | refine New.drewN ?_ _ | refine New.setCell ?_ (by first | omega | (simp; omega) | (simp; done)) _ | refine New.trans ?_ (by assumption)))⟩
  have hm : (n : Int) ≤ 1048576 := by omega
  have hm0 : (0 : Int) ≤ (n : Int) := by omega
  go_enter Try.func10, Try.ntmps10
  go_wp2_with fail
  refine (DrawCommonBox_any A n c HM.out hnc _ HB.out).mono ?_
  rintro e w1 ⟨B1, m1, d1, zs, x, y, rfl, I1, l1, kd, xb, yb, N1a⟩
  have s1 := N1a.le
  have N1 := Lib.hid ((New.refl w).trans N1a); clear N1a
  replace I1 := Lib.hid I1
  by_cases hok : (nodeOk m1 zs x && nodeOk m1 zs y) = true
  · obtain ⟨hx, hy⟩ : nodeOk m1 zs x = true ∧ nodeOk m1 zs y = true := by simpa using hok
    obtain ⟨hv, a, rfl, ha⟩ := nodeOk_iff.1 hx
    obtain ⟨_, i, rfl, hi⟩ := nodeOk_iff.1 hy
    have HV := Lib.hid hv; have v1 := (vtB_iff.1 hv).1
    have a0 : (0 : Int) ≤ (a : Int) := by omega
    have a1 : (a : Int) < (m1 : Int) := by omega
    have i0 : (0 : Int) ≤ (i : Int) := by omega
    have i1 : (i : Int) < (m1 : Int) := by omega
    clear hok hx hy xb yb
    have EC := Lib.hid (comA_at hv ha hi)
    have kl := com_lt (link_vt hv) ha hi
    have E2 := Lib.hid ((comA_at hv hi ha).trans (by rw [com_comm (link_vt hv) ha hi]))
    have E3 := Lib.hid ((comA_at hv ha ha).trans (by rw [com_self]))
    have E4 := Lib.hid ((comA_at hv (show 0 < m1 by omega) hi).trans (by rw [com_root (link_vt hv) hi]))
    have E5 := Lib.hid (arA_at hv ha hi)
    have E6 := Lib.hid (com_is (link_vt hv) ha hi)
    generalize comL zs i a = k at *
    generalize anc zs a i = v at *
    have k0 : (0 : Int) ≤ (k : Int) := by omega
    have kb : ((k : Int) == (a : Int)) = v := by have h := E6.out; rw [← h]; by_cases e : (k : Int) = (a : Int) <;> simp [e]
    have vv : (v == v) = true := by cases v <;> rfl
    clear hv
    go_wp2_with fail
    refine (CommonBox_any B1 m1 d1 zs (a : Int) (i : Int) (by omega) _ I1.out).mono ?_
    rw [EC.out]
    rintro e w2 ⟨rfl, N2a⟩
    have s2 := N2a.le
    have I1 := Lib.hid (I1.out.new N2a)
    have N2 := Lib.hid (N1.out.trans N2a); clear N2a
    go_wp2_with fail
    refine (SCommonBox_any B1 m1 d1 zs (a : Int) (i : Int) (by omega) _ I1.out).mono ?_
    rw [EC.out]
    rintro e w3 ⟨rfl, N3a⟩
    have s3 := N3a.le
    have I1 := Lib.hid (I1.out.new N3a)
    have N3 := Lib.hid (N2.out.trans N3a); clear N3a
    go_wp2_with fail
    refine (CommonBox_any B1 m1 d1 zs (i : Int) (a : Int) (by omega) _ I1.out).mono ?_
    rw [E2.out]
    rintro e w4 ⟨rfl, N4a⟩
    have s4 := N4a.le
    have I1 := Lib.hid (I1.out.new N4a)
    have N4 := Lib.hid (N3.out.trans N4a); clear N4a
    go_wp2_with fail
    refine (CommonBox_any B1 m1 d1 zs (a : Int) (a : Int) (by omega) _ I1.out).mono ?_
    rw [E3.out]
    rintro e w5 ⟨rfl, N5a⟩
    have s5 := N5a.le
    have I1 := Lib.hid (I1.out.new N5a)
    have N5 := Lib.hid (N4.out.trans N5a); clear N5a
    go_wp2_with fail
    refine (CommonBox_any B1 m1 d1 zs ((0 : Nat) : Int) (i : Int) (by omega) _ I1.out).mono ?_
    rw [E4.out]
    rintro e w6 ⟨rfl, N6a⟩
    have s6 := N6a.le
    have I1 := Lib.hid (I1.out.new N6a)
    have N6 := Lib.hid (N5.out.trans N6a); clear N6a
    go_wp2_with fail
    refine (IsAround_any B1 m1 d1 zs (a : Int) (i : Int) (by omega) _ I1.out).mono ?_
    rw [E5.out]
    rintro e w7 ⟨rfl, N7a⟩
    have s7 := N7a.le
    have I1 := Lib.hid (I1.out.new N7a)
    have N7 := Lib.hid (N6.out.trans N7a); clear N7a
    go_wp2
    go_ret
    exact ⟨rfl, N7.out⟩
  · have EC := Lib.hid (show comA m1 zs x y = -1 by unfold comA; exact if_neg hok)
    clear hok
    go_wp2_with fail
    refine (CommonBox_any B1 m1 d1 zs x y (by omega) _ I1.out).mono ?_
    rw [EC.out]
    rintro e w2 ⟨rfl, N2a⟩
    have s2 := N2a.le
    have I1 := Lib.hid (I1.out.new N2a)
    have N2 := Lib.hid (N1.out.trans N2a); clear N2a
    go_wp2_with fail
    refine (SCommonBox_any B1 m1 d1 zs x y (by omega) _ I1.out).mono ?_
    rw [EC.out]
    rintro e w3 ⟨rfl, N3a⟩
    have s3 := N3a.le
    have I1 := Lib.hid (I1.out.new N3a)
    have N3 := Lib.hid (N2.out.trans N3a); clear N3a
    go_wp2_with fail
    refine (SCommonBox_any B1 m1 d1 zs x y (by omega) _ I1.out).mono ?_
    rw [EC.out]
    rintro e w4 ⟨rfl, N4a⟩
    have s4 := N4a.le
    have I1 := Lib.hid (I1.out.new N4a)
    have N4 := Lib.hid (N3.out.trans N4a); clear N4a
    go_wp2
    go_ret
    exact ⟨rfl, N4.out⟩
end Go.Proofs.Ytohjfddmnhnfjaa
