/- The law FnIsAround, walked: a box is around what is around it, and the first box is around all. Condition: the code can be read. -/
import Derived.Test.YtgclajfomolkiaaDrawTt
import Derived.Test.YtgclajfomolkiaaTreeP
namespace Go.Proofs.Ytgclajfomolkiaa
open Go.RowKit

set_option maxHeartbeats 4000000 in
theorem lawIsAround (A : Option Addr) (n c : Nat) (hn : n ≤ maxLen) (hnc : n ≤ c) (w : World) (hb : Bytes w A n) :
    Calls Try.prog 6 #[.slice A n c] w fun e w' => e = .returned (.bool true) ∧ New w w' := by
  have HB := Lib.hid hb; have HM := Lib.hid hn
  clear hb
  unfold maxLen at hn
  by_cases hbig : 1048576 < n
  · go_enter Try.func6, Try.ntmps6
    go_wp2
    go_ret
    exact ⟨rfl, by (repeat (first | exact New.refl _ | assumption | refine New.alloc ?_ _ | refine New.drew ?_ | refine New.drewN ?_ _ | refine New.setCell ?_ (by first | omega | (simp; omega) | (simp; done)) _ | refine New.trans ?_ (by assumption)))⟩
  have hm : (n : Int) ≤ 1048576 := by omega
  have hm0 : (0 : Int) ≤ (n : Int) := by omega
  go_enter Try.func6, Try.ntmps6
  go_wp2_with fail
  refine (DrawIsAround_any A n c HM.out hnc _ HB.out).mono ?_
  rintro e w1 ⟨B1, m1, d1, zs, x, y, rfl, I1, l1, kd, xb, yb, N1a⟩
  have s1 := N1a.le
  have N1 := Lib.hid ((New.refl w).trans N1a); clear N1a
  replace I1 := Lib.hid I1
  by_cases hx : nodeOk m1 zs x = true
  · by_cases hy : nodeOk m1 zs y = true
    · obtain ⟨hv, a, rfl, ha⟩ := nodeOk_iff.1 hx
      obtain ⟨_, i, rfl, hi⟩ := nodeOk_iff.1 hy
      have EX := Lib.hid (depA_at hv ha); have EY := Lib.hid (depA_at hv hi)
      have EA := Lib.hid (arA_at hv ha hi)
      have u0 : (0 : Int) ≤ (dep zs a : Int) := by omega
      have u1 : (0 : Int) ≤ (dep zs i : Int) := by omega
      generalize dep zs a = u at *
      generalize dep zs i = u' at *
      clear hx hy xb yb
      by_cases hai : a = i
      · subst hai
        have ES := Lib.hid (anc_self zs a)
        clear hv
        go_wp2_with fail
        refine (IsAround_any B1 m1 d1 zs (a : Int) (a : Int) (by omega) _ I1.out).mono ?_
        rw [EA.out, ES.out]
        rintro e w2 ⟨rfl, N2a⟩
        have s2 := N2a.le
        have I1 := Lib.hid (I1.out.new N2a)
        have N2 := Lib.hid (N1.out.trans N2a); clear N2a
        go_wp2_with fail
        refine (SIsAround_any B1 m1 d1 zs (a : Int) (a : Int) (by omega) _ I1.out).mono ?_
        rw [EA.out, ES.out]
        rintro e w3 ⟨rfl, N3a⟩
        have s3 := N3a.le
        have I1 := Lib.hid (I1.out.new N3a)
        have N3 := Lib.hid (N2.out.trans N3a); clear N3a
        go_wp2_with fail
        refine (DepthOf_any B1 m1 d1 zs (a : Int) (by omega) _ I1.out).mono ?_
        rw [EX.out]
        rintro e w4 ⟨rfl, N4a⟩
        have s4 := N4a.le
        have I1 := Lib.hid (I1.out.new N4a)
        have N4 := Lib.hid (N3.out.trans N4a); clear N4a
        go_wp2_with fail
        refine (DepthOf_any B1 m1 d1 zs (a : Int) (by omega) _ I1.out).mono ?_
        rw [EX.out]
        rintro e w5 ⟨rfl, N5a⟩
        have s5 := N5a.le
        have I1 := Lib.hid (I1.out.new N5a)
        have N5 := Lib.hid (N4.out.trans N5a); clear N5a
        go_wp2
        go_ret
        exact ⟨rfl, N5.out⟩
      · have hab : ((a : Int) == (i : Int)) = false := by simp; omega
        have HR := Lib.hid ((arA_at hv (show 0 < m1 by omega) hi).trans ((link_vt hv).root_anc hi))
        have i0 : (0 : Int) ≤ (i : Int) := by omega
        rcases Nat.eq_zero_or_pos i with h0 | h0
        · have ez : anc zs a i = false := by cases h : anc zs a i with | false => rfl | true => exact absurd (anc_le h) (by omega)
          have EZ := Lib.hid ez
          subst h0
          clear hv ez
          go_wp2_with fail
          refine (IsAround_any B1 m1 d1 zs (a : Int) ((0 : Nat) : Int) (by omega) _ I1.out).mono ?_
          rw [EA.out, EZ.out]
          rintro e w2 ⟨rfl, N2a⟩
          have s2 := N2a.le
          have I1 := Lib.hid (I1.out.new N2a)
          have N2 := Lib.hid (N1.out.trans N2a); clear N2a
          go_wp2_with fail
          refine (SIsAround_any B1 m1 d1 zs (a : Int) ((0 : Nat) : Int) (by omega) _ I1.out).mono ?_
          rw [EA.out, EZ.out]
          rintro e w3 ⟨rfl, N3a⟩
          have s3 := N3a.le
          have I1 := Lib.hid (I1.out.new N3a)
          have N3 := Lib.hid (N2.out.trans N3a); clear N3a
          go_wp2_with fail
          refine (DepthOf_any B1 m1 d1 zs (a : Int) (by omega) _ I1.out).mono ?_
          rw [EX.out]
          rintro e w4 ⟨rfl, N4a⟩
          have s4 := N4a.le
          have I1 := Lib.hid (I1.out.new N4a)
          have N4 := Lib.hid (N3.out.trans N4a); clear N4a
          go_wp2_with fail
          refine (DepthOf_any B1 m1 d1 zs ((0 : Nat) : Int) (by omega) _ I1.out).mono ?_
          rw [EY.out]
          rintro e w5 ⟨rfl, N5a⟩
          have s5 := N5a.le
          have I1 := Lib.hid (I1.out.new N5a)
          have N5 := Lib.hid (N4.out.trans N5a); clear N5a
          go_wp2_with fail
          refine (IsAround_any B1 m1 d1 zs ((0 : Nat) : Int) ((0 : Nat) : Int) (by omega) _ I1.out).mono ?_
          rw [HR.out]
          rintro e w6 ⟨rfl, N6a⟩
          have s6 := N6a.le
          have I1 := Lib.hid (I1.out.new N6a)
          have N6 := Lib.hid (N5.out.trans N6a); clear N6a
          go_wp2
          go_ret
          exact ⟨rfl, N6.out⟩
        · obtain ⟨p, e, hp⟩ := par_bd hv hi h0
          have ep := anc_par (a := a) e hp (by omega)
          have HP := Lib.hid (arA_at hv ha (show p < m1 by omega))
          have e9 : zs.getD (i * 9) 0 = (p : Int) := e
          have E9 := Lib.hid e9
          have h0i : (0 : Int) < (i : Int) := by omega
          have i1 : (i : Int) < (m1 : Int) := by omega
          obtain ⟨v, hvv⟩ : ∃ v, anc zs a p = v := ⟨_, rfl⟩
          rw [hvv] at ep
          have EP := Lib.hid ep; have HVV := Lib.hid hvv
          clear hv ep hvv e e9
          cases v
          · skip
            go_wp2_with fail
            refine (IsAround_any B1 m1 d1 zs (a : Int) (i : Int) (by omega) _ I1.out).mono ?_
            rw [EA.out, EP.out]
            rintro e w2 ⟨rfl, N2a⟩
            have s2 := N2a.le
            have I1 := Lib.hid (I1.out.new N2a)
            have N2 := Lib.hid (N1.out.trans N2a); clear N2a
            go_wp2_with fail
            refine (SIsAround_any B1 m1 d1 zs (a : Int) (i : Int) (by omega) _ I1.out).mono ?_
            rw [EA.out, EP.out]
            rintro e w3 ⟨rfl, N3a⟩
            have s3 := N3a.le
            have I1 := Lib.hid (I1.out.new N3a)
            have N3 := Lib.hid (N2.out.trans N3a); clear N3a
            go_wp2_with fail
            refine (DepthOf_any B1 m1 d1 zs (a : Int) (by omega) _ I1.out).mono ?_
            rw [EX.out]
            rintro e w4 ⟨rfl, N4a⟩
            have s4 := N4a.le
            have I1 := Lib.hid (I1.out.new N4a)
            have N4 := Lib.hid (N3.out.trans N4a); clear N4a
            go_wp2_with fail
            refine (DepthOf_any B1 m1 d1 zs (i : Int) (by omega) _ I1.out).mono ?_
            rw [EY.out]
            rintro e w5 ⟨rfl, N5a⟩
            have s5 := N5a.le
            have I1 := Lib.hid (I1.out.new N5a)
            have N5 := Lib.hid (N4.out.trans N5a); clear N5a
            obtain ⟨b, off, rfl, hb, hc⟩ := I1.out.at_ (by omega)
            have g1 := hc (i * 9) (by omega)
            rw [E9.out] at g1
            clear hc
            go_wp2_with fail
            refine (IsAround_any _ m1 d1 zs (a : Int) (p : Int) (by omega) _ I1.out).mono ?_
            rw [HP.out, HVV.out]
            rintro e w6 ⟨rfl, N6a⟩
            have s6 := N6a.le
            have I1 := Lib.hid (I1.out.new N6a)
            have N6 := Lib.hid (N5.out.trans N6a); clear N6a
            go_wp2_with fail
            refine (IsAround_any _ m1 d1 zs ((0 : Nat) : Int) (i : Int) (by omega) _ I1.out).mono ?_
            rw [HR.out]
            rintro e w7 ⟨rfl, N7a⟩
            have s7 := N7a.le
            have I1 := Lib.hid (I1.out.new N7a)
            have N7 := Lib.hid (N6.out.trans N7a); clear N7a
            go_wp2
            go_ret
            exact ⟨rfl, N7.out⟩
          · skip
            go_wp2_with fail
            refine (IsAround_any B1 m1 d1 zs (a : Int) (i : Int) (by omega) _ I1.out).mono ?_
            rw [EA.out, EP.out]
            rintro e w2 ⟨rfl, N2a⟩
            have s2 := N2a.le
            have I1 := Lib.hid (I1.out.new N2a)
            have N2 := Lib.hid (N1.out.trans N2a); clear N2a
            go_wp2_with fail
            refine (SIsAround_any B1 m1 d1 zs (a : Int) (i : Int) (by omega) _ I1.out).mono ?_
            rw [EA.out, EP.out]
            rintro e w3 ⟨rfl, N3a⟩
            have s3 := N3a.le
            have I1 := Lib.hid (I1.out.new N3a)
            have N3 := Lib.hid (N2.out.trans N3a); clear N3a
            go_wp2_with fail
            refine (DepthOf_any B1 m1 d1 zs (a : Int) (by omega) _ I1.out).mono ?_
            rw [EX.out]
            rintro e w4 ⟨rfl, N4a⟩
            have s4 := N4a.le
            have I1 := Lib.hid (I1.out.new N4a)
            have N4 := Lib.hid (N3.out.trans N4a); clear N4a
            go_wp2_with fail
            refine (DepthOf_any B1 m1 d1 zs (i : Int) (by omega) _ I1.out).mono ?_
            rw [EY.out]
            rintro e w5 ⟨rfl, N5a⟩
            have s5 := N5a.le
            have I1 := Lib.hid (I1.out.new N5a)
            have N5 := Lib.hid (N4.out.trans N5a); clear N5a
            obtain ⟨b, off, rfl, hb, hc⟩ := I1.out.at_ (by omega)
            have g1 := hc (i * 9) (by omega)
            rw [E9.out] at g1
            clear hc
            go_wp2_with fail
            refine (IsAround_any _ m1 d1 zs (a : Int) (p : Int) (by omega) _ I1.out).mono ?_
            rw [HP.out, HVV.out]
            rintro e w6 ⟨rfl, N6a⟩
            have s6 := N6a.le
            have I1 := Lib.hid (I1.out.new N6a)
            have N6 := Lib.hid (N5.out.trans N6a); clear N6a
            go_wp2_with fail
            refine (IsAround_any _ m1 d1 zs ((0 : Nat) : Int) (i : Int) (by omega) _ I1.out).mono ?_
            rw [HR.out]
            rintro e w7 ⟨rfl, N7a⟩
            have s7 := N7a.le
            have I1 := Lib.hid (I1.out.new N7a)
            have N7 := Lib.hid (N6.out.trans N7a); clear N7a
            go_wp2
            go_ret
            exact ⟨rfl, N7.out⟩
    · have hy' : nodeOk m1 zs y = false := by simpa using hy
      obtain ⟨hv, a, rfl, ha⟩ := nodeOk_iff.1 hx
      have EA : Hid (arA m1 zs (a : Int) y = false) := Lib.hid (by unfold arA; rw [hy', Bool.and_false, Bool.false_and])
      have ED := Lib.hid (depA_no hy'); have EX := Lib.hid (depA_at hv ha)
      have u0 : (0 : Int) ≤ (dep zs a : Int) := by omega
      generalize dep zs a = u at *
      clear hx hy hy' hv
      go_wp2_with fail
      refine (IsAround_any B1 m1 d1 zs (a : Int) y (by omega) _ I1.out).mono ?_
      rw [EA.out]
      rintro e w2 ⟨rfl, N2a⟩
      have s2 := N2a.le
      have I1 := Lib.hid (I1.out.new N2a)
      have N2 := Lib.hid (N1.out.trans N2a); clear N2a
      go_wp2_with fail
      refine (SIsAround_any B1 m1 d1 zs (a : Int) y (by omega) _ I1.out).mono ?_
      rw [EA.out]
      rintro e w3 ⟨rfl, N3a⟩
      have s3 := N3a.le
      have I1 := Lib.hid (I1.out.new N3a)
      have N3 := Lib.hid (N2.out.trans N3a); clear N3a
      go_wp2_with fail
      refine (DepthOf_any B1 m1 d1 zs (a : Int) (by omega) _ I1.out).mono ?_
      rw [EX.out]
      rintro e w4 ⟨rfl, N4a⟩
      have s4 := N4a.le
      have I1 := Lib.hid (I1.out.new N4a)
      have N4 := Lib.hid (N3.out.trans N4a); clear N4a
      go_wp2_with fail
      refine (DepthOf_any B1 m1 d1 zs y (by omega) _ I1.out).mono ?_
      rw [ED.out]
      rintro e w5 ⟨rfl, N5a⟩
      have s5 := N5a.le
      have I1 := Lib.hid (I1.out.new N5a)
      have N5 := Lib.hid (N4.out.trans N5a); clear N5a
      go_wp2_with fail
      refine (SIsAround_any B1 m1 d1 zs (a : Int) y (by omega) _ I1.out).mono ?_
      rw [EA.out]
      rintro e w6 ⟨rfl, N6a⟩
      have s6 := N6a.le
      have I1 := Lib.hid (I1.out.new N6a)
      have N6 := Lib.hid (N5.out.trans N6a); clear N6a
      go_wp2
      go_ret
      exact ⟨rfl, N6.out⟩
  · have hx' : nodeOk m1 zs x = false := by simpa using hx
    have EA : Hid (arA m1 zs x y = false) := Lib.hid (by unfold arA; rw [hx']; rfl)
    have ED := Lib.hid (depA_no hx'); clear hx hx'
    go_wp2_with fail
    refine (IsAround_any B1 m1 d1 zs x y (by omega) _ I1.out).mono ?_
    rw [EA.out]
    rintro e w2 ⟨rfl, N2a⟩
    have s2 := N2a.le
    have I1 := Lib.hid (I1.out.new N2a)
    have N2 := Lib.hid (N1.out.trans N2a); clear N2a
    go_wp2_with fail
    refine (SIsAround_any B1 m1 d1 zs x y (by omega) _ I1.out).mono ?_
    rw [EA.out]
    rintro e w3 ⟨rfl, N3a⟩
    have s3 := N3a.le
    have I1 := Lib.hid (I1.out.new N3a)
    have N3 := Lib.hid (N2.out.trans N3a); clear N3a
    go_wp2_with fail
    refine (DepthOf_any B1 m1 d1 zs x (by omega) _ I1.out).mono ?_
    rw [ED.out]
    rintro e w4 ⟨rfl, N4a⟩
    have s4 := N4a.le
    have I1 := Lib.hid (I1.out.new N4a)
    have N4 := Lib.hid (N3.out.trans N4a); clear N4a
    go_wp2_with fail
    refine (SIsAround_any B1 m1 d1 zs x y (by omega) _ I1.out).mono ?_
    rw [EA.out]
    rintro e w5 ⟨rfl, N5a⟩
    have s5 := N5a.le
    have I1 := Lib.hid (I1.out.new N5a)
    have N5 := Lib.hid (N4.out.trans N5a); clear N5a
    go_wp2
    go_ret
    exact ⟨rfl, N5.out⟩
end Go.Proofs.Ytgclajfomolkiaa
