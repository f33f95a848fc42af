/- The law FnDepthOf, walked: a box is one deeper than the box that it is in. Condition: the code can be read. -/
import Derived.Test.YtgclajfomolkiaaDrawTt
import Derived.Test.YtgclajfomolkiaaTreeP
namespace Go.Proofs.Ytgclajfomolkiaa
open Go.RowKit

set_option maxHeartbeats 4000000 in
theorem lawDepthOf (A : Option Addr) (n c : Nat) (hn : n ≤ maxLen) (hnc : n ≤ c) (w : World) (hb : Bytes w A n) :
    Calls Try.prog 5 #[.slice A n c] w fun e w' => e = .returned (.bool true) ∧ New w w' := by
  have HB := Lib.hid hb; have HM := Lib.hid hn
  clear hb
  unfold maxLen at hn
  by_cases hbig : 1048576 < n
  · go_enter Try.func5, Try.ntmps5
    go_wp2
    go_ret
    exact ⟨rfl, by (repeat (first | exact New.refl _ | assumption | refine New.alloc ?_ _ | refine New.drew ?_ | refine New.drewN ?_ _ | refine New.setCell ?_ (by first | omega | (simp; omega) | (simp; done)) _ | refine New.trans ?_ (by assumption)))⟩
  have hm : (n : Int) ≤ 1048576 := by omega
  have hm0 : (0 : Int) ≤ (n : Int) := by omega
  go_enter Try.func5, Try.ntmps5
  go_wp2_with fail
  refine (DrawDepthOf_any A n c HM.out hnc _ HB.out).mono ?_
  rintro e w1 ⟨B1, m1, d1, zs, x, rfl, I1, l1, kd, xb, N1a⟩
  have s1 := N1a.le
  have N1 := Lib.hid ((New.refl w).trans N1a); clear N1a
  replace I1 := Lib.hid I1
  by_cases hok : nodeOk m1 zs x = true
  · obtain ⟨hv, a, rfl, ha⟩ := nodeOk_iff.1 hok
    have HV := Lib.hid hv; have v1 := (vtB_iff.1 hv).1
    have a0 : (0 : Int) ≤ (a : Int) := by omega
    have a1 : (a : Int) < (m1 : Int) := by omega
    clear hok xb
    have EA := Lib.hid (depA_at hv ha); have d0 := dep_le5 hv ha
    rcases Nat.eq_zero_or_pos a with h0 | h0
    · subst h0
      have ez : dep zs 0 = 0 := dep_top (by rw [par_root hv ha]; omega)
      have EZ := Lib.hid ez
      clear hv ez d0 a0
      go_wp2_with fail
      refine (DepthOf_any B1 m1 d1 zs ((0 : Nat) : Int) (by omega) _ I1.out).mono ?_
      rw [EA.out, EZ.out]
      rintro e w2 ⟨rfl, N2a⟩
      have s2 := N2a.le
      have I1 := Lib.hid (I1.out.new N2a)
      have N2 := Lib.hid (N1.out.trans N2a); clear N2a
      go_wp2_with fail
      refine (SDepthOf_any B1 m1 d1 zs ((0 : Nat) : Int) (by omega) _ I1.out).mono ?_
      rw [EA.out, EZ.out]
      rintro e w3 ⟨rfl, N3a⟩
      have s3 := N3a.le
      have I1 := Lib.hid (I1.out.new N3a)
      have N3 := Lib.hid (N2.out.trans N3a); clear N3a
      go_wp2
      go_ret
      exact ⟨rfl, N3.out⟩
    · obtain ⟨p, e, hp⟩ := par_bd hv ha h0
      have EP := Lib.hid (depA_at hv (show p < m1 by omega))
      have ed := dep_par e hp
      obtain ⟨u, hu⟩ : ∃ u, dep zs p = u := ⟨_, rfl⟩
      rw [hu] at ed
      have ED := Lib.hid ed; have HU := Lib.hid hu
      rw [ed] at d0
      have h0i : (0 : Int) < (a : Int) := by omega
      have hab : ((a : Int) == 0) = false := by simp; omega
      have p0 : (0 : Int) ≤ (p : Int) := by omega
      have u0 : (0 : Int) ≤ (u : Int) := by omega
      have u5 : (u : Int) + 1 ≤ 5 := by omega
      have e9 : zs.getD (a * 9) 0 = (p : Int) := e
      have E9 := Lib.hid e9
      clear hv ed hu e e9 d0
      go_wp2_with fail
      refine (DepthOf_any B1 m1 d1 zs (a : Int) (by omega) _ I1.out).mono ?_
      rw [EA.out, ED.out]
      rintro e w2 ⟨rfl, N2a⟩
      have s2 := N2a.le
      have I1 := Lib.hid (I1.out.new N2a)
      have N2 := Lib.hid (N1.out.trans N2a); clear N2a
      go_wp2_with fail
      refine (SDepthOf_any B1 m1 d1 zs (a : Int) (by omega) _ I1.out).mono ?_
      rw [EA.out, ED.out]
      rintro e w3 ⟨rfl, N3a⟩
      have s3 := N3a.le
      have I1 := Lib.hid (I1.out.new N3a)
      have N3 := Lib.hid (N2.out.trans N3a); clear N3a
      obtain ⟨b, off, rfl, hb, hc⟩ := I1.out.at_ (by omega)
      have g1 := hc (a * 9) (by omega)
      rw [E9.out] at g1
      clear hc
      go_wp2_with fail
      refine (DepthOf_any _ m1 d1 zs (p : Int) (by omega) _ I1.out).mono ?_
      rw [EP.out, HU.out]
      rintro e w4 ⟨rfl, N4a⟩
      have s4 := N4a.le
      have I1 := Lib.hid (I1.out.new N4a)
      have N4 := Lib.hid (N3.out.trans N4a); clear N4a
      go_wp2
      go_ret
      exact ⟨by first | rfl | (congr 3; simp; omega) | (simp; omega), N4.out⟩
  · have hok' : nodeOk m1 zs x = false := by simpa using hok
    clear hok
    have EA := Lib.hid (depA_no hok'); clear hok'
    go_wp2_with fail
    refine (DepthOf_any B1 m1 d1 zs x (by omega) _ I1.out).mono ?_
    rw [EA.out]
    rintro e w2 ⟨rfl, N2a⟩
    have s2 := N2a.le
    have I1 := Lib.hid (I1.out.new N2a)
    have N2 := Lib.hid (N1.out.trans N2a); clear N2a
    go_wp2_with fail
    refine (SDepthOf_any B1 m1 d1 zs x (by omega) _ I1.out).mono ?_
    rw [EA.out]
    rintro e w3 ⟨rfl, N3a⟩
    have s3 := N3a.le
    have I1 := Lib.hid (I1.out.new N3a)
    have N3 := Lib.hid (N2.out.trans N3a); clear N3a
    go_wp2_with fail
    refine (SDepthOf_any B1 m1 d1 zs x (by omega) _ I1.out).mono ?_
    rw [EA.out]
    rintro e w4 ⟨rfl, N4a⟩
    have s4 := N4a.le
    have I1 := Lib.hid (I1.out.new N4a)
    have N4 := Lib.hid (N3.out.trans N4a); clear N4a
    go_wp2
    go_ret
    exact ⟨rfl, N4.out⟩
end Go.Proofs.Ytgclajfomolkiaa
