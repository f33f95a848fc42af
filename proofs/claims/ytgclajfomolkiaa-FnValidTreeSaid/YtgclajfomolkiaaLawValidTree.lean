/- The law FnValidTree, walked: a valid tree without its last box is valid, and so is its first box alone. Condition: the code can be read. -/
import Derived.Test.YtgclajfomolkiaaDrawTt
import Derived.Test.YtgclajfomolkiaaTreeP
namespace Go.Proofs.Ytgclajfomolkiaa
open Go.RowKit

set_option maxHeartbeats 4000000 in
theorem lawValidTree (A : Option Addr) (n c : Nat) (hn : n ≤ maxLen) (hnc : n ≤ c) (w : World) (hb : Bytes w A n) :
    Calls Try.prog 3 #[.slice A n c] w fun e w' => e = .returned (.bool true) ∧ New w w' := by
  have HB := Lib.hid hb; have HM := Lib.hid hn
  clear hb
  unfold maxLen at hn
  by_cases hbig : 1048576 < n
  · go_enter Try.func3, Try.ntmps3
    go_wp2
    go_ret
    exact ⟨rfl, by (repeat (first | exact New.refl _ | assumption | refine New.alloc ?_ _ | refine New.drew ?_ | refine New.drewN ?_ _ | refine New.setCell ?_ (by first | omega | (simp; omega) | (simp; done)) _ | refine New.trans ?_ (by assumption)))⟩
  have hm : (n : Int) ≤ 1048576 := by omega
  have hm0 : (0 : Int) ≤ (n : Int) := by omega
  go_enter Try.func3, Try.ntmps3
  go_wp2_with fail
  refine (DrawValidTree_any A n c HM.out hnc _ HB.out).mono ?_
  rintro e w1 ⟨B1, m1, d1, zs, rfl, I1, l1, kd, N1a⟩
  have s1 := N1a.le
  have N1 := Lib.hid ((New.refl w).trans N1a); clear N1a
  replace I1 := Lib.hid I1
  by_cases hv : vtB m1 zs = true
  · have HV := Lib.hid hv; have v1 := (vtB_iff.1 hv).1
    by_cases h2 : m1 < 2
    · clear hv
      go_wp2_with fail
      refine (ValidTree_any B1 m1 d1 zs (by omega) _ I1.out).mono ?_
      rw [HV.out]
      rintro e w2 ⟨rfl, N2a⟩
      have s2 := N2a.le
      have I1 := Lib.hid (I1.out.new N2a)
      have N2 := Lib.hid (N1.out.trans N2a); clear N2a
      go_wp2_with fail
      refine (SValidTree_any B1 m1 d1 zs (by omega) _ I1.out).mono ?_
      rw [HV.out]
      rintro e w3 ⟨rfl, N3a⟩
      have s3 := N3a.le
      have I1 := Lib.hid (I1.out.new N3a)
      have N3 := Lib.hid (N2.out.trans N3a); clear N3a
      go_wp2_with fail
      refine (SValidTree_any B1 m1 d1 zs (by omega) _ I1.out).mono ?_
      rw [HV.out]
      rintro e w4 ⟨rfl, N4a⟩
      have s4 := N4a.le
      have I1 := Lib.hid (I1.out.new N4a)
      have N4 := Lib.hid (N3.out.trans N4a); clear N4a
      go_wp2
      go_ret
      exact ⟨rfl, N4.out⟩
    · obtain ⟨q, hq⟩ : ∃ q : Nat, m1 = q + 1 := ⟨m1 - 1, by omega⟩
      have V1 : Hid (vtB q (zs.take (q * 9)) = true) := Lib.hid (vt_pref hv (by omega) (by omega) (take_same _ _))
      have V2 : Hid (vtB 1 (zs.take (1 * 9)) = true) := Lib.hid (vt_pref hv (by omega) (by omega) (take_same _ _))
      have hq1 : (m1 : Int) - 1 = (q : Int) := by omega
      have q0 : (0 : Int) ≤ (q : Int) := by omega
      have qd : (q : Int) ≤ (d1 : Int) := by omega
      have d10 : (1 : Int) ≤ (d1 : Int) := by omega
      have qm : q ≤ m1 := by omega
      have m2 : (2 : Int) ≤ (m1 : Int) := by omega
      clear hv hq
      go_wp2_with fail
      refine (ValidTree_any B1 m1 d1 zs (by omega) _ I1.out).mono ?_
      rw [HV.out]
      rintro e w2 ⟨rfl, N2a⟩
      have s2 := N2a.le
      have I1 := Lib.hid (I1.out.new N2a)
      have N2 := Lib.hid (N1.out.trans N2a); clear N2a
      go_wp2_with fail
      refine (SValidTree_any B1 m1 d1 zs (by omega) _ I1.out).mono ?_
      rw [HV.out]
      rintro e w3 ⟨rfl, N3a⟩
      have s3 := N3a.le
      have I1 := Lib.hid (I1.out.new N3a)
      have N3 := Lib.hid (N2.out.trans N3a); clear N3a
      go_wp2_with fail
      refine (ValidTree_any B1 q d1 (zs.take (q * 9)) (by omega) _ (I1.out.pref qm)).mono ?_
      rw [V1.out]
      rintro e w4 ⟨rfl, N4a⟩
      have s4 := N4a.le
      have I1 := Lib.hid (I1.out.new N4a)
      have N4 := Lib.hid (N3.out.trans N4a); clear N4a
      go_wp2_with fail
      refine (ValidTree_any B1 1 d1 (zs.take (1 * 9)) (by omega) _ (I1.out.pref (by omega))).mono ?_
      rw [V2.out]
      rintro e w5 ⟨rfl, N5a⟩
      have s5 := N5a.le
      have I1 := Lib.hid (I1.out.new N5a)
      have N5 := Lib.hid (N4.out.trans N5a); clear N5a
      go_wp2
      go_ret
      exact ⟨rfl, N5.out⟩
  · have hv' : vtB m1 zs = false := by simpa using hv
    have HV := Lib.hid hv'; clear hv hv'
    go_wp2_with fail
    refine (ValidTree_any B1 m1 d1 zs (by omega) _ I1.out).mono ?_
    rw [HV.out]
    rintro e w2 ⟨rfl, N2a⟩
    have s2 := N2a.le
    have I1 := Lib.hid (I1.out.new N2a)
    have N2 := Lib.hid (N1.out.trans N2a); clear N2a
    go_wp2_with fail
    refine (SValidTree_any B1 m1 d1 zs (by omega) _ I1.out).mono ?_
    rw [HV.out]
    rintro e w3 ⟨rfl, N3a⟩
    have s3 := N3a.le
    have I1 := Lib.hid (I1.out.new N3a)
    have N3 := Lib.hid (N2.out.trans N3a); clear N3a
    go_wp2_with fail
    refine (SValidTree_any B1 m1 d1 zs (by omega) _ I1.out).mono ?_
    rw [HV.out]
    rintro e w4 ⟨rfl, N4a⟩
    have s4 := N4a.le
    have I1 := Lib.hid (I1.out.new N4a)
    have N4 := Lib.hid (N3.out.trans N4a); clear N4a
    go_wp2
    go_ret
    exact ⟨rfl, N4.out⟩
end Go.Proofs.Ytgclajfomolkiaa
