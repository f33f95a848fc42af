/- The law FnLayoutRoot, walked: a layout begins at a box around the box that is no block, and all between are blocks. Condition: the code can be read. -/
import Derived.Test.YtnihklilappimaaDrawTt
import Derived.Test.YtnihklilappimaaPathP
import Derived.Test.YtnihklilappimaaLrtP
namespace Go.Proofs.Ytnihklilappimaa
open Go.RowKit

set_option maxHeartbeats 4000000 in
theorem lawLayoutRoot (A : Option Addr) (n c : Nat) (hn : n ≤ maxLen) (hnc : n ≤ c) (w : World) (hb : Bytes w A n) :
    Calls Try.prog 6 #[.slice A n c] w fun e w' => e = .returned (.bool true) ∧ New w w' := by
  have HB := Lib.hid hb; have HM := Lib.hid hn
  clear hb
  unfold maxLen at hn
  by_cases hbig : 1048576 < n
  · go_enter Try.func6, Try.ntmps6
    go_wp2
    go_ret
    exact ⟨rfl, by (repeat (first | exact New.refl _ | assumption | refine New.alloc ?_ _ | refine New.drew ?_ | refine New.drewN ?_ _ | refine New.setCell ?_ (by first | omega | (simp; omega) | (simp; done)) _ | refine New.trans ?_ (by assumption)))⟩
  have hm : (n : Int) ≤ 1048576 := by omega
  have hm0 : (0 : Int) ≤ (n : Int) := by omega
  go_enter Try.func6, Try.ntmps6
  go_wp2_with fail
  refine (DrawLayoutRoot_any A n c HM.out hnc _ HB.out).mono ?_
  rintro e w1 ⟨B1, m1, d1, zs, x, rfl, I1, l1, kd, xb, N1a⟩
  have s1 := N1a.le
  have N1 := Lib.hid ((New.refl w).trans N1a); clear N1a
  replace I1 := Lib.hid I1
  by_cases hok : nodeOk m1 zs x = true
  · obtain ⟨hv, a, rfl, ha⟩ := nodeOk_iff.1 hok
    have HV := Lib.hid hv; have v1 := (vtB_iff.1 hv).1
    have a0 : (0 : Int) ≤ (a : Int) := by omega
    have a1 : (a : Int) < (m1 : Int) := by omega
    clear hok xb
    have EA := Lib.hid (show lrtA m1 zs (a : Int) = (lrt zs a : Int) by unfold lrtA; rw [if_pos (nodeOk_iff.2 ⟨hv, a, rfl, ha⟩), Int.toNat_natCast])
    obtain ⟨s1_, s2_, s3_⟩ := lrt_spec (link_vt hv) ha
    have la := lrt_le zs a
    have AK := Lib.hid ((arA_at hv (show lrt zs a < m1 by omega) ha).trans s1_)
    have S2 := Lib.hid s2_; have S3 := Lib.hid s3_
    have PB := Lib.hid (fun d (hd : d + 1 < dep zs a + 1) => (show anc zs ((pathL zs a).getD d 0) a = true ∧ (pathL zs a).getD d 0 ≠ a ∧ (pathL zs a).getD d 0 < m1 by
      obtain ⟨q1, q2⟩ := path_at (zs := zs) (i := a) (d := d) (by rw [path_len]; omega)
      exact ⟨q1, fun e2 => by rw [e2] at q2; omega, by have := anc_le q1; omega⟩))
    have LP0 := pathA_size hv ha
    have d5 := dep_le5 hv ha
    obtain ⟨np, hnp⟩ : ∃ np, dep zs a + 1 = np := ⟨_, rfl⟩
    rw [hnp] at LP0
    have LP := Lib.hid LP0
    have np1 : (1 : Int) ≤ (np : Int) := by omega
    have np6 : (np : Int) ≤ 6 := by omega
    have npb : ((np : Int) == 0) = false := by simp; omega
    have PE := Lib.hid (pathA_at hv ha)
    have PN := Lib.hid (fun d (hd : d + 1 < np) => path_next (link_vt hv) ha (d := d) (by rw [path_len]; omega))
    have P0 := Lib.hid (path_first (link_vt hv) ha)
    have P9 := Lib.hid (path_last zs a)
    have npd : (np : Int) - 1 = ((dep zs a : Nat) : Int) := by omega
    rw [hnp] at PB
    have hL2 : lrt zs a < m1 := by omega
    generalize lrt zs a = L at *
    have L0 : (0 : Int) ≤ (L : Int) := by omega
    have L1 : (L : Int) < (m1 : Int) := by omega
    clear hv hnp d5 LP0 s1_ s2_ s3_ npd la
    go_wp2_with fail
    refine (LayoutRoot_any B1 m1 d1 zs (a : Int) (by omega) _ I1.out).mono ?_
    rw [EA.out]
    rintro e w2 ⟨rfl, N2a⟩
    have s2 := N2a.le
    have I1 := Lib.hid (I1.out.new N2a)
    have N2 := Lib.hid (N1.out.trans N2a); clear N2a
    go_wp2_with fail
    refine (SLayoutRoot_any B1 m1 d1 zs (a : Int) (by omega) _ I1.out).mono ?_
    rw [EA.out]
    rintro e w3 ⟨rfl, N3a⟩
    have s3 := N3a.le
    have I1 := Lib.hid (I1.out.new N3a)
    have N3 := Lib.hid (N2.out.trans N3a); clear N3a
    go_wp2_with fail
    refine (PathTo_ans B1 m1 d1 zs (a : Int) (by omega) _ I1.out).mono ?_
    rintro e w4 ⟨A4, n4, c4, rfl, l4, r4, N4a⟩
    have s4 := N4a.le
    have I1 := Lib.hid (I1.out.new N4a)
    have N4 := Lib.hid (N3.out.trans N4a); clear N4a
    obtain rfl : np = n4 := by have := LP.out; omega
    have R4 := Lib.hid r4; clear l4 r4
    have NN := Lib.hid N4.out
    have H0 : 0 < np := by omega
    obtain ⟨b', off', rfl, hb', hc'⟩ := (R4.out.ints LP.out).at_ H0
    have HC := Lib.hid hc'
    obtain ⟨b, off, rfl, hb, hc⟩ := I1.out.at_ (by omega)
    have HT := Lib.hid hc
    clear hc' hc
    go_wp2
    go_loopw [7] (fun i wr => wr = w4 ∧ ∃ j : Nat, j < np ∧ i = .int .i64 j) (fun i _ => np - (intOf i).toNat)
    case atStart => exact ⟨rfl, 0, H0, rfl⟩
    case round =>
      obtain ⟨rfl, j, hj, rfl⟩ := hrel
      have j0 : (0 : Int) ≤ (j : Int) := by omega
      by_cases hlt : j + 1 < np
      · have g1 := HC.out j hj
        rw [PE.out, getD_map] at g1
        obtain ⟨p1, p2, p3⟩ := PB.out j hlt
        have g3 := HT.out ((pathL zs a).getD j 0 * 9 + 1) (by omega)
        rw [← Nat.add_assoc] at g3
        have s3 := S3.out _ p1 p2
        unfold knd at s3
        have j1 : (j : Int) + 1 < (np : Int) := by omega
        have j2 : (j : Int) < (np : Int) := by omega
        clear p1 p2
        generalize (pathL zs a).getD j 0 = u at *
        have u0 : (0 : Int) ≤ (u : Int) := by omega
        have u1 : (u : Int) < (m1 : Int) := by omega
        by_cases hu : L < u
        · have k1 := s3 hu
          rw [k1] at g3
          have hui : (L : Int) < (u : Int) := by omega
          have hud : decide (L < u) = true := decide_eq_true hu
          clear s3 k1
          go_wp2
          go_roundw
          case rel => exact ⟨trivial, j + 1, by omega, by go_num⟩
          case measure => simp [intOf]; omega
        · have hui : (u : Int) ≤ (L : Int) := by omega
          have hud : decide (L < u) = false := decide_eq_false hu
          generalize zs.getD (u * 9 + 1) 0 = kz at g3
          clear s3
          go_wp2
          go_roundw
          case rel => exact ⟨trivial, j + 1, by omega, by go_num⟩
          case measure => simp [intOf]; omega
      · have j1 : (np : Int) ≤ (j : Int) + 1 := by omega
        have g3 := HT.out (L * 9 + 1) (by omega)
        rw [← Nat.add_assoc] at g3
        have I2 := Lib.hid I1.out
        have HB := Lib.hid hb
        have G3 := Lib.hid g3
        obtain ⟨kz, hkz⟩ : ∃ kz, zs.getD (L * 9 + 1) 0 = kz := ⟨_, rfl⟩
        rw [hkz] at G3
        rcases S2.out with h0 | ⟨h1, h2⟩
        · subst h0
          clear g3 hkz G3
          go_wp2_with (go_at_call 26; refine (IsAround_any _ m1 d1 zs ((0 : Nat) : Int) (a : Int) (by omega) _ I2.out).mono ?_; rw [AK.out]; rintro e wc ⟨rfl, Nc⟩; (replace Nc := Lib.hid Nc))
          go_ret
          exact ⟨by first | rfl | simp, NN.out.trans Nc.out⟩
        · have kb : (kz != 1) = true := by rw [← hkz]; exact bne_iff_ne.2 h1
          have lb : ((L : Int) != (a : Int)) = true := by simp; omega
          have lb2 : (L == a) = false := by simp; omega
          clear g3 hkz h1
          by_cases hl0 : L = 0
          · subst hl0
            go_wp2_with (go_at_call 26; refine (IsAround_any _ m1 d1 zs ((0 : Nat) : Int) (a : Int) (by omega) _ I2.out).mono ?_; rw [AK.out]; rintro e wc ⟨rfl, Nc⟩; (replace Nc := Lib.hid Nc))
            go_ret
            exact ⟨by first | rfl | simp, NN.out.trans Nc.out⟩
          · have lz : ((L : Int) == 0) = false := by simp; omega
            clear hl0
            go_wp2_with (go_at_call 26; refine (IsAround_any _ m1 d1 zs (L : Int) (a : Int) (by omega) _ I2.out).mono ?_; rw [AK.out]; rintro e wc ⟨rfl, Nc⟩; (have g4 := (Nc.cells _ _ HB.out).trans G3.out); (replace Nc := Lib.hid Nc))
            go_ret
            exact ⟨by first | rfl | simp, NN.out.trans Nc.out⟩
  · have hok' : nodeOk m1 zs x = false := by simpa using hok
    clear hok
    have EA := Lib.hid (show lrtA m1 zs x = -1 by unfold lrtA; rw [hok']; rfl); clear hok'
    go_wp2_with fail
    refine (LayoutRoot_any B1 m1 d1 zs x (by omega) _ I1.out).mono ?_
    rw [EA.out]
    rintro e w2 ⟨rfl, N2a⟩
    have s2 := N2a.le
    have I1 := Lib.hid (I1.out.new N2a)
    have N2 := Lib.hid (N1.out.trans N2a); clear N2a
    go_wp2_with fail
    refine (SLayoutRoot_any B1 m1 d1 zs x (by omega) _ I1.out).mono ?_
    rw [EA.out]
    rintro e w3 ⟨rfl, N3a⟩
    have s3 := N3a.le
    have I1 := Lib.hid (I1.out.new N3a)
    have N3 := Lib.hid (N2.out.trans N3a); clear N3a
    go_wp2_with fail
    refine (SLayoutRoot_any B1 m1 d1 zs x (by omega) _ I1.out).mono ?_
    rw [EA.out]
    rintro e w4 ⟨rfl, N4a⟩
    have s4 := N4a.le
    have I1 := Lib.hid (I1.out.new N4a)
    have N4 := Lib.hid (N3.out.trans N4a); clear N4a
    go_wp2
    go_ret
    exact ⟨rfl, N4.out⟩
end Go.Proofs.Ytnihklilappimaa
