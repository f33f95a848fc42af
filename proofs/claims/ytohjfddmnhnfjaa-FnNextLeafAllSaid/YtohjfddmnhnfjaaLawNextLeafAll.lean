/- The law FnNextLeafAll, walked: the next leaves, as many as there are, lead back. Condition: the code can be read. -/
import Derived.Test.YtohjfddmnhnfjaaDrawPt
import Derived.Test.YtohjfddmnhnfjaaPathP
namespace Go.Proofs.Ytohjfddmnhnfjaa
open Go.RowKit

set_option maxHeartbeats 4000000 in
theorem lawNextLeafAll (A : Option Addr) (n c : Nat) (hn : n ≤ maxLen) (hnc : n ≤ c) (w : World) (hb : Bytes w A n) :
    Calls Try.prog 13 #[.slice A n c] w fun e w' => e = .returned (.bool true) ∧ New w w' := by
  have HB := Lib.hid hb; have HM := Lib.hid hn
  clear hb
  unfold maxLen at hn
  by_cases hbig : 1048576 < n
  · go_enter Try.func13, Try.ntmps13
    go_wp2
    go_ret
    exact ⟨rfl, by (repeat (first | exact New.refl _ | assumption | refine New.alloc ?_ _ | refine New.drew ?_ | refine New.drewN ?_ _ | refine New.setCell ?_ (by first | omega | (simp; omega) | (simp; done)) _ | refine New.trans ?_ (by assumption)))⟩
  have hm : (n : Int) ≤ 1048576 := by omega
  have hm0 : (0 : Int) ≤ (n : Int) := by omega
  go_enter Try.func13, Try.ntmps13
  go_wp2_with fail
  refine (DrawNextLeaf_any A n c HM.out hnc _ HB.out).mono ?_
  rintro e w1 ⟨B1, m1, d1, zs, x, rfl, I1, l1, kd, xb, N1a⟩
  have s1 := N1a.le
  have N1 := Lib.hid ((New.refl w).trans N1a); clear N1a
  replace I1 := Lib.hid I1
  by_cases hok : nodeOk m1 zs x = true
  · obtain ⟨hv, a, rfl, ha⟩ := nodeOk_iff.1 hok
    have HV := Lib.hid hv; have v1 := (vtB_iff.1 hv).1
    have a0 : (0 : Int) ≤ (a : Int) := by omega
    have a1 : (a : Int) < (m1 : Int) := by omega
    clear hok xb
    have EN := Lib.hid (show nlA m1 zs (a : Int) = nlf zs m1 a 0 by unfold nlA; rw [if_pos (nodeOk_iff.2 ⟨hv, a, rfl, ha⟩), Int.toNat_natCast])
    rcases nlf_spec zs m1 a 0 (Nat.zero_le _) with ⟨e1, _⟩ | ⟨u, _, hu, e1, hk, _⟩
    · replace e1 := Lib.hid e1
      clear hv
      go_wp2_with fail
      refine (NextLeaf_any B1 m1 d1 zs (a : Int) (by omega) _ I1.out).mono ?_
      rw [EN.out, e1.out]
      rintro e w2 ⟨rfl, N2a⟩
      have s2 := N2a.le
      have I1 := Lib.hid (I1.out.new N2a)
      have N2 := Lib.hid (N1.out.trans N2a); clear N2a
      go_wp2_with fail
      refine (SNextLeaf_any B1 m1 d1 zs (a : Int) (by omega) _ I1.out).mono ?_
      rw [EN.out, e1.out]
      rintro e w3 ⟨rfl, N3a⟩
      have s3 := N3a.le
      have I1 := Lib.hid (I1.out.new N3a)
      have N3 := Lib.hid (N2.out.trans N3a); clear N3a
      go_wp2_with fail
      refine (SNextLeaf_any B1 m1 d1 zs (a : Int) (by omega) _ I1.out).mono ?_
      rw [EN.out, e1.out]
      rintro e w4 ⟨rfl, N4a⟩
      have s4 := N4a.le
      have I1 := Lib.hid (I1.out.new N4a)
      have N4 := Lib.hid (N3.out.trans N4a); clear N4a
      go_wp2
      go_ret
      exact ⟨rfl, N4.out⟩
    · replace e1 := Lib.hid e1
      have ql : (a + 1 + u) % m1 < m1 := Nat.mod_lt _ (by omega)
      have HK := Lib.hid hk
      generalize hq : (a + 1 + u) % m1 = q at *
      have q0 : (0 : Int) ≤ (q : Int) := by omega
      have CQ := Lib.hid (cntL_lt ql hk)
      have NX := Lib.hid (fun x (hx : x < m1) => show nlA m1 zs (x : Int) = nlf zs m1 x 0 by unfold nlA; rw [if_pos (nodeOk_iff.2 ⟨hv, x, rfl, hx⟩), Int.toNat_natCast])
      clear hv hk hq
      go_wp2_with fail
      refine (NextLeaf_any B1 m1 d1 zs (a : Int) (by omega) _ I1.out).mono ?_
      rw [EN.out, e1.out]
      rintro e w2 ⟨rfl, N2a⟩
      have s2 := N2a.le
      have I1 := Lib.hid (I1.out.new N2a)
      have N2 := Lib.hid (N1.out.trans N2a); clear N2a
      go_wp2_with fail
      refine (SNextLeaf_any B1 m1 d1 zs (a : Int) (by omega) _ I1.out).mono ?_
      rw [EN.out, e1.out]
      rintro e w3 ⟨rfl, N3a⟩
      have s3 := N3a.le
      have I1 := Lib.hid (I1.out.new N3a)
      have N3 := Lib.hid (N2.out.trans N3a); clear N3a
      have NN := Lib.hid N3.out
      go_wp2
      go_loopw [6, 7] (fun x i wr => ∃ (j cur : Nat), j ≤ m1 ∧ cur < m1 ∧ i = .int .i64 j ∧ x = .int .i64 (cur : Int) ∧ Hid (knd zs cur = 0) ∧ Hid (cntL zs cur = cntL zs q + cntL zs j ∨ cntL zs cur + cntL zs m1 = cntL zs q + cntL zs j) ∧ Hid (New w3 wr)) (fun _ i _ => m1 - (intOf i).toNat)
      case atStart => exact ⟨0, q, Nat.zero_le _, ql, rfl, rfl, HK, Lib.hid (.inl rfl), Lib.hid (New.refl _)⟩
      case round =>
        obtain ⟨j, cur, hj, hcur, rfl, rfl, HC, HR, HW⟩ := hrel
        have j0 : (0 : Int) ≤ (j : Int) := by omega
        have c0 : (0 : Int) ≤ (cur : Int) := by omega
        have I2 := Lib.hid (I1.out.new HW.out)
        by_cases hlt : j < m1
        · have j1 : (j : Int) < (m1 : Int) := by omega
          obtain ⟨b, off, rfl, hb, hc⟩ := I2.out.at_ (by omega)
          have g1 := hc (j * 9 + 1) (by omega)
          rw [← Nat.add_assoc] at g1
          have CJ := Lib.hid (fun h => cntL_leaf (zs := zs) (k := j) h); have CN := Lib.hid (fun h => cntL_no (zs := zs) (k := j) h)
          have CM := Lib.hid (cntL_mono (zs := zs) (show j + 1 ≤ m1 by omega))
          unfold knd at CJ CN
          clear hc
          by_cases hkz : zs.getD (j * 9 + 1) 0 = 0
          · have CJ2 := Lib.hid (CJ.out hkz)
            obtain ⟨y, e2, hy, hky, hcy⟩ := nlf_leaf hcur HC.out
            have EY := Lib.hid ((NX.out cur hcur).trans e2)
            have HKY := Lib.hid hky
            have HR2 : Hid (cntL zs y = cntL zs q + cntL zs (j + 1) ∨ cntL zs y + cntL zs m1 = cntL zs q + cntL zs (j + 1)) := Lib.hid (by
              have h1 := HR.out; have h2 := CJ2.out; have h3 := CQ.out; have h4 := CM.out; have h5 := cntL_lt hcur HC.out
              rw [hcy]
              split <;> omega)
            rw [hkz] at g1
            clear CJ CN hkz e2 hky hcy
            go_wp2_with fail
            refine (NextLeaf_any _ m1 d1 zs (cur : Int) (by omega) _ I2.out).mono ?_
            rw [EY.out]
            rintro e wc ⟨rfl, Nc⟩
            replace Nc := Lib.hid (HW.out.trans Nc)
            go_wp2
            go_roundw
            case rel => exact ⟨j + 1, y, by omega, hy, by go_num, rfl, HKY, HR2, Nc⟩
            case measure => simp [intOf]; omega
          · have CN2 := Lib.hid (CN.out hkz)
            have kb : (zs.getD (j * 9 + 1) 0 == 0) = false := by simpa using hkz
            have HR2 : Hid (cntL zs cur = cntL zs q + cntL zs (j + 1) ∨ cntL zs cur + cntL zs m1 = cntL zs q + cntL zs (j + 1)) := Lib.hid (by rw [CN2.out]; exact HR.out)
            generalize zs.getD (j * 9 + 1) 0 = kz at g1 kb
            clear CJ CN hkz
            go_wp2
            go_roundw
            case rel => exact ⟨j + 1, cur, by omega, hcur, by go_num, rfl, HC, HR2, HW⟩
            case measure => simp [intOf]; omega
        · obtain rfl : m1 = j := by omega
          have ec : cur = q := by
            have h1 := HR.out; have h5 := cntL_lt hcur HC.out; have h3 := CQ.out
            exact cntL_same HC.out HK.out (by omega)
          subst ec
          go_wp2
          go_ret
          exact ⟨by first | rfl | simp, NN.out.trans HW.out⟩
  · have hok' : nodeOk m1 zs x = false := by simpa using hok
    clear hok
    have EA := Lib.hid (show nlA m1 zs x = -1 by unfold nlA; rw [hok']; rfl); clear hok'
    go_wp2_with fail
    refine (NextLeaf_any B1 m1 d1 zs x (by omega) _ I1.out).mono ?_
    rw [EA.out]
    rintro e w2 ⟨rfl, N2a⟩
    have s2 := N2a.le
    have I1 := Lib.hid (I1.out.new N2a)
    have N2 := Lib.hid (N1.out.trans N2a); clear N2a
    go_wp2_with fail
    refine (SNextLeaf_any B1 m1 d1 zs x (by omega) _ I1.out).mono ?_
    rw [EA.out]
    rintro e w3 ⟨rfl, N3a⟩
    have s3 := N3a.le
    have I1 := Lib.hid (I1.out.new N3a)
    have N3 := Lib.hid (N2.out.trans N3a); clear N3a
    go_wp2_with fail
    refine (SNextLeaf_any B1 m1 d1 zs x (by omega) _ I1.out).mono ?_
    rw [EA.out]
    rintro e w4 ⟨rfl, N4a⟩
    have s4 := N4a.le
    have I1 := Lib.hid (I1.out.new N4a)
    have N4 := Lib.hid (N3.out.trans N4a); clear N4a
    go_wp2
    go_ret
    exact ⟨rfl, N4.out⟩
end Go.Proofs.Ytohjfddmnhnfjaa
