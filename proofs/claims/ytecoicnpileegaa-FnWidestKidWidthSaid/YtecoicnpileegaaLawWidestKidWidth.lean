/- The law FnWidestKidWidth, walked: a block with boxes is as wide as the widest of them and twice its pad. Condition: the code can be read. -/
import Derived.Test.YtecoicnpileegaaDrawSz
import Derived.Test.YtecoicnpileegaaNatP
import Derived.Test.YtecoicnpileegaaTreeP
namespace Go.Proofs.Ytecoicnpileegaa
open Go.RowKit

set_option maxHeartbeats 4000000 in
theorem lawWidestKidWidth (A : Option Addr) (n c : Nat) (hn : n ≤ maxLen) (hnc : n ≤ c) (w : World) (hb : Bytes w A n) :
    Calls Try.prog 13 #[.slice A n c] w fun e w' => e = .returned (.bool true) ∧ New w w' := by
  have HB := Lib.hid hb; have HM := Lib.hid hn
  clear hb
  unfold maxLen at hn
  by_cases hbig : 1048576 < n
  · go_enter Try.func13, Try.ntmps13
    go_wp2
    go_ret
    exact ⟨rfl, by (repeat (first | exact New.refl _ | assumption | refine New.alloc ?_ _ | refine New.drew ?_ | refine New.drewN ?_ _ | refine New.setCell ?_ (by first | omega | (simp; omega) | (simp; done)) _ | refine New.trans ?_ (by assumption)))⟩
  have hm : (n : Int) ≤ 1048576 := by omega
  have hm0 : (0 : Int) ≤ (n : Int) := by omega
  go_enter Try.func13, Try.ntmps13
  go_wp2_with fail
  refine (DrawWidestKid_any A n c HM.out hnc _ HB.out).mono ?_
  rintro e w1 ⟨B1, m1, d1, zs, x, rfl, I1, l1, kd, xb, N1a⟩
  have s1 := N1a.le
  have N1 := Lib.hid ((New.refl w).trans N1a); clear N1a
  replace I1 := Lib.hid I1
  by_cases hok : nodeOk m1 zs x = true
  · obtain ⟨hv, a, rfl, ha⟩ := nodeOk_iff.1 hok
    have HV := Lib.hid hv; have v1 := (vtB_iff.1 hv).1
    have a0 : (0 : Int) ≤ (a : Int) := by omega
    have a1 : (a : Int) < (m1 : Int) := by omega
    clear hok xb
    rcases Nat.eq_zero_or_pos (kidL zs m1 a).length with h0 | h0
    · have EA := Lib.hid (show widA m1 zs (a : Int) = -1 by unfold widA; rw [if_pos (nodeOk_iff.2 ⟨hv, a, rfl, ha⟩), Int.toNat_natCast, List.eq_nil_of_length_eq_zero h0]; rfl)
      clear hv h0
      go_wp2_with fail
      refine (WidestKid_any B1 m1 d1 zs (a : Int) (by omega) _ I1.out).mono ?_
      rw [EA.out]
      rintro e w2 ⟨rfl, N2a⟩
      have s2 := N2a.le
      have I1 := Lib.hid (I1.out.new N2a)
      have N2 := Lib.hid (N1.out.trans N2a); clear N2a
      go_wp2_with fail
      refine (SWidestKid_any B1 m1 d1 zs (a : Int) (by omega) _ I1.out).mono ?_
      rw [EA.out]
      rintro e w3 ⟨rfl, N3a⟩
      have s3 := N3a.le
      have I1 := Lib.hid (I1.out.new N3a)
      have N3 := Lib.hid (N2.out.trans N3a); clear N3a
      go_wp2_with fail
      refine (SWidestKid_any B1 m1 d1 zs (a : Int) (by omega) _ I1.out).mono ?_
      rw [EA.out]
      rintro e w4 ⟨rfl, N4a⟩
      have s4 := N4a.le
      have I1 := Lib.hid (I1.out.new N4a)
      have N4 := Lib.hid (N3.out.trans N4a); clear N4a
      go_wp2
      go_ret
      exact ⟨rfl, N4.out⟩
    · obtain ⟨j, hj, jm, e1, e2⟩ := widA_at hv ha h0
      have EA := Lib.hid e1
      have kn := kid_kind hv hj
      have j0 : (0 : Int) ≤ (j : Int) := by omega
      have dd1 : decide (m1 ≤ a) = false := decide_eq_false (by omega)
      clear e1 h0 hj
      by_cases hk : knd zs a = 2
      · clear hv e2 kn
        go_wp2_with fail
        refine (WidestKid_any B1 m1 d1 zs (a : Int) (by omega) _ I1.out).mono ?_
        rw [EA.out]
        rintro e w2 ⟨rfl, N2a⟩
        have s2 := N2a.le
        have I1 := Lib.hid (I1.out.new N2a)
        have N2 := Lib.hid (N1.out.trans N2a); clear N2a
        go_wp2_with fail
        refine (SWidestKid_any B1 m1 d1 zs (a : Int) (by omega) _ I1.out).mono ?_
        rw [EA.out]
        rintro e w3 ⟨rfl, N3a⟩
        have s3 := N3a.le
        have I1 := Lib.hid (I1.out.new N3a)
        have N3 := Lib.hid (N2.out.trans N3a); clear N3a
        have hk2 : zs.getD (a * 9 + 1) 0 = 2 := hk
        obtain ⟨b, off, rfl, hb, hc⟩ := I1.out.at_ (by omega)
        have g1 := hc (a * 9 + 1) (by omega)
        rw [hk2, ← Nat.add_assoc] at g1
        clear hc hk hk2
        go_wp2_with fail
        refine (SWidestKid_any _ m1 d1 zs (a : Int) (by omega) _ I1.out).mono ?_
        rw [EA.out]
        rintro e w4 ⟨rfl, N4a⟩
        have s4 := N4a.le
        have I1 := Lib.hid (I1.out.new N4a)
        have N4 := Lib.hid (N3.out.trans N4a); clear N4a
        go_wp2
        go_ret
        exact ⟨rfl, N4.out⟩
      · have NB := nat_block hv ha kn hk
        rw [← e2] at NB
        have WA := Lib.hid (natW_at hv ha); have HA := Lib.hid (natH_at hv ha); have WJ := Lib.hid (natW_at hv jm); have HJ := Lib.hid (natH_at hv jm)
        have OA := Lib.hid (nodeOk_iff.2 ⟨hv, a, rfl, ha⟩); have OJ := Lib.hid (nodeOk_iff.2 ⟨hv, j, rfl, jm⟩)
        have bj := nat_bd hv jm
        have sj := nat_sm hv jm
        have pz := ((vtB_iff.1 hv).2 a ha).1.2.2.2.1
        obtain ⟨P, hP⟩ : ∃ P, zs.getD (a * 9 + 4) 0 = P := ⟨_, rfl⟩
        obtain ⟨kz, hkz⟩ : ∃ kz, zs.getD (a * 9 + 1) 0 = kz := ⟨_, rfl⟩
        have hkb : (kz == 2) = false := by rw [← hkz]; exact beq_eq_false_iff_ne.2 hk
        have HP := Lib.hid hP; have HKZ := Lib.hid hkz
        generalize (natL zs m1 a).1 = X at *
        generalize (natL zs m1 a).2 = Y at *
        generalize (natL zs m1 j).1 = U at *
        generalize (natL zs m1 j).2 = V at *
        rw [hP] at NB pz
        obtain ⟨⟨sj1, sj2⟩, _⟩ := sj
        clear hv e2 kn hk bj hP hkz
        go_wp2_with fail
        refine (WidestKid_any B1 m1 d1 zs (a : Int) (by omega) _ I1.out).mono ?_
        rw [EA.out]
        rintro e w2 ⟨rfl, N2a⟩
        have s2 := N2a.le
        have I1 := Lib.hid (I1.out.new N2a)
        have N2 := Lib.hid (N1.out.trans N2a); clear N2a
        go_wp2_with fail
        refine (SWidestKid_any B1 m1 d1 zs (a : Int) (by omega) _ I1.out).mono ?_
        rw [EA.out]
        rintro e w3 ⟨rfl, N3a⟩
        have s3 := N3a.le
        have I1 := Lib.hid (I1.out.new N3a)
        have N3 := Lib.hid (N2.out.trans N3a); clear N3a
        obtain ⟨b, off, rfl, hb, hc⟩ := I1.out.at_ (by omega)
        have g1 := hc (a * 9 + 1) (by omega)
        rw [HKZ.out, ← Nat.add_assoc] at g1
        clear hc
        go_wp2_with fail
        refine (NaturalSize_any _ m1 d1 zs (a : Int) (by omega) _ I1.out).mono ?_
        rw [WA.out, HA.out, OA.out]
        rintro e w4 ⟨rfl, N4a⟩
        have s4 := N4a.le
        have I1 := Lib.hid (I1.out.new N4a)
        have N4 := Lib.hid (N3.out.trans N4a); clear N4a
        go_wp2_with fail
        refine (NaturalSize_any _ m1 d1 zs (j : Int) (by omega) _ I1.out).mono ?_
        rw [WJ.out, HJ.out, OJ.out]
        rintro e w5 ⟨rfl, N5a⟩
        have s5 := N5a.le
        have I1 := Lib.hid (I1.out.new N5a)
        have N5 := Lib.hid (N4.out.trans N5a); clear N5a
        obtain ⟨_, _, e, _, hc⟩ := I1.out.at_ (by omega)
        cases e
        have g2 := hc (a * 9 + 4) (by omega)
        rw [HP.out, ← Nat.add_assoc] at g2
        have nb : (X == U + 2 * P) = true := by rw [NB]; exact beq_self_eq_true _
        clear hc NB
        go_wp2
        go_ret
        exact ⟨rfl, N5.out⟩
  · have hok' : nodeOk m1 zs x = false := by simpa using hok
    clear hok
    have EA := Lib.hid (widA_no hok'); clear hok'
    go_wp2_with fail
    refine (WidestKid_any B1 m1 d1 zs x (by omega) _ I1.out).mono ?_
    rw [EA.out]
    rintro e w2 ⟨rfl, N2a⟩
    have s2 := N2a.le
    have I1 := Lib.hid (I1.out.new N2a)
    have N2 := Lib.hid (N1.out.trans N2a); clear N2a
    go_wp2_with fail
    refine (SWidestKid_any B1 m1 d1 zs x (by omega) _ I1.out).mono ?_
    rw [EA.out]
    rintro e w3 ⟨rfl, N3a⟩
    have s3 := N3a.le
    have I1 := Lib.hid (I1.out.new N3a)
    have N3 := Lib.hid (N2.out.trans N3a); clear N3a
    go_wp2_with fail
    refine (SWidestKid_any B1 m1 d1 zs x (by omega) _ I1.out).mono ?_
    rw [EA.out]
    rintro e w4 ⟨rfl, N4a⟩
    have s4 := N4a.le
    have I1 := Lib.hid (I1.out.new N4a)
    have N4 := Lib.hid (N3.out.trans N4a); clear N4a
    go_wp2
    go_ret
    exact ⟨rfl, N4.out⟩
end Go.Proofs.Ytecoicnpileegaa
