/- The law FnDepthOfPath, walked: a path is one longer than its box is deep, and the first box has no depth. Condition: the code can be read. -/
import Derived.Test.YtnihklilappimaaDrawTt
import Derived.Test.YtnihklilappimaaPathP
namespace Go.Proofs.Ytnihklilappimaa
open Go.RowKit

set_option maxHeartbeats 4000000 in
theorem lawDepthOfPath (A : Option Addr) (n c : Nat) (hn : n ≤ maxLen) (hnc : n ≤ c) (w : World) (hb : Bytes w A n) :
    Calls Try.prog 3 #[.slice A n c] w fun e w' => e = .returned (.bool true) ∧ New w w' := by
  have HB := Lib.hid hb; have HM := Lib.hid hn
  clear hb
  unfold maxLen at hn
  by_cases hbig : 1048576 < n
  · go_enter Try.func3, Try.ntmps3
    go_wp2
    go_ret
    exact ⟨rfl, by (repeat (first | exact New.refl _ | assumption | refine New.alloc ?_ _ | refine New.drew ?_ | refine New.drewN ?_ _ | refine New.setCell ?_ (by first | omega | (simp; omega) | (simp; done)) _ | refine New.trans ?_ (by assumption)))⟩
  have hm : (n : Int) ≤ 1048576 := by omega
  have hm0 : (0 : Int) ≤ (n : Int) := by omega
  go_enter Try.func3, Try.ntmps3
  go_wp2_with fail
  refine (DrawDepthOf_any A n c HM.out hnc _ HB.out).mono ?_
  rintro e w1 ⟨B1, m1, d1, zs, x, rfl, I1, l1, kd, xb, N1a⟩
  have s1 := N1a.le
  have N1 := Lib.hid ((New.refl w).trans N1a); clear N1a
  replace I1 := Lib.hid I1
  by_cases hok : nodeOk m1 zs x = true
  · obtain ⟨hv, a, rfl, ha⟩ := nodeOk_iff.1 hok
    have HV := Lib.hid hv; have v1 := (vtB_iff.1 hv).1
    have a0 : (0 : Int) ≤ (a : Int) := by omega
    have a1 : (a : Int) < (m1 : Int) := by omega
    clear hok xb
    have EA := Lib.hid (depA_at hv ha)
    have E0 := Lib.hid ((depA_at hv (show 0 < m1 by omega)).trans (by rw [dep_root (link_vt hv) (show 0 < m1 by omega)] : (dep zs 0 : Int) = ((0 : Nat) : Int)))
    have LP0 := pathA_size hv ha
    have d5 := dep_le5 hv ha
    obtain ⟨np, hnp⟩ : ∃ np, dep zs a + 1 = np := ⟨_, rfl⟩
    rw [hnp] at LP0
    have LP := Lib.hid LP0
    have np1 : (1 : Int) ≤ (np : Int) := by omega
    have np6 : (np : Int) ≤ 6 := by omega
    have npb : ((np : Int) == 0) = false := by simp; omega
    have PE := Lib.hid (pathA_at hv ha)
    have PN := Lib.hid (fun d (hd : d + 1 < np) => path_next (link_vt hv) ha (d := d) (by rw [path_len]; omega))
    have P0 := Lib.hid (path_first (link_vt hv) ha)
    have P9 := Lib.hid (path_last zs a)
    have npd : (np : Int) - 1 = ((dep zs a : Nat) : Int) := by omega
    generalize dep zs a = D at *
    have D0 : (0 : Int) ≤ (D : Int) := by omega
    have D5 : (D : Int) ≤ 5 := by omega
    have npD : ((np : Int) == (D : Int) + 1) = true := by simp; omega
    have npE : ((D : Int) + 1 == (np : Int)) = true := by simp; omega
    have npF : (np : Int) = (D : Int) + 1 := by omega
    clear hv hnp d5 npd LP0 npF
    go_wp2_with fail
    refine (DepthOf_any B1 m1 d1 zs (a : Int) (by omega) _ I1.out).mono ?_
    rw [EA.out]
    rintro e w2 ⟨rfl, N2a⟩
    have s2 := N2a.le
    have I1 := Lib.hid (I1.out.new N2a)
    have N2 := Lib.hid (N1.out.trans N2a); clear N2a
    go_wp2_with fail
    refine (SDepthOf_any B1 m1 d1 zs (a : Int) (by omega) _ I1.out).mono ?_
    rw [EA.out]
    rintro e w3 ⟨rfl, N3a⟩
    have s3 := N3a.le
    have I1 := Lib.hid (I1.out.new N3a)
    have N3 := Lib.hid (N2.out.trans N3a); clear N3a
    go_wp2_with fail
    refine (PathTo_ans B1 m1 d1 zs (a : Int) (by omega) _ I1.out).mono ?_
    rintro e w4 ⟨A4, n4, c4, rfl, l4, r4, N4a⟩
    have s4 := N4a.le
    have I1 := Lib.hid (I1.out.new N4a)
    have N4 := Lib.hid (N3.out.trans N4a); clear N4a
    obtain rfl : np = n4 := by have := LP.out; omega
    have R4 := Lib.hid r4; clear l4 r4
    go_wp2_with fail
    refine (DepthOf_any B1 m1 d1 zs ((0 : Nat) : Int) (by omega) _ I1.out).mono ?_
    rw [E0.out]
    rintro e w5 ⟨rfl, N5a⟩
    have s5 := N5a.le
    have I1 := Lib.hid (I1.out.new N5a)
    have R4 := Lib.hid (R4.out.new N5a)
    have N5 := Lib.hid (N4.out.trans N5a); clear N5a
    go_wp2
    go_ret
    exact ⟨by first | rfl | simp, N5.out⟩
  · have hok' : nodeOk m1 zs x = false := by simpa using hok
    clear hok
    have EA := Lib.hid (depA_no hok'); clear hok'
    go_wp2_with fail
    refine (DepthOf_any B1 m1 d1 zs x (by omega) _ I1.out).mono ?_
    rw [EA.out]
    rintro e w2 ⟨rfl, N2a⟩
    have s2 := N2a.le
    have I1 := Lib.hid (I1.out.new N2a)
    have N2 := Lib.hid (N1.out.trans N2a); clear N2a
    go_wp2_with fail
    refine (SDepthOf_any B1 m1 d1 zs x (by omega) _ I1.out).mono ?_
    rw [EA.out]
    rintro e w3 ⟨rfl, N3a⟩
    have s3 := N3a.le
    have I1 := Lib.hid (I1.out.new N3a)
    have N3 := Lib.hid (N2.out.trans N3a); clear N3a
    go_wp2_with fail
    refine (SDepthOf_any B1 m1 d1 zs x (by omega) _ I1.out).mono ?_
    rw [EA.out]
    rintro e w4 ⟨rfl, N4a⟩
    have s4 := N4a.le
    have I1 := Lib.hid (I1.out.new N4a)
    have N4 := Lib.hid (N3.out.trans N4a); clear N4a
    go_wp2
    go_ret
    exact ⟨rfl, N4.out⟩
end Go.Proofs.Ytnihklilappimaa
