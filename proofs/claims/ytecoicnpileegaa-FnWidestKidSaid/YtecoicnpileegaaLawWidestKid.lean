/- The law FnWidestKid, walked: no box directly in a box is wider than the widest, and none ahead of it as wide. Condition: the code can be read. -/
import Derived.Test.YtecoicnpileegaaDrawSz
import Derived.Test.YtecoicnpileegaaNatP
import Derived.Test.YtecoicnpileegaaTreeP
import Derived.Test.YtecoicnpileegaaIsIn
namespace Go.Proofs.Ytecoicnpileegaa
open Go.RowKit

set_option maxHeartbeats 4000000 in
theorem lawWidestKid (A : Option Addr) (n c : Nat) (hn : n ≤ maxLen) (hnc : n ≤ c) (w : World) (hb : Bytes w A n) :
    Calls Try.prog 12 #[.slice A n c] w fun e w' => e = .returned (.bool true) ∧ New w w' := by
  have HB := Lib.hid hb; have HM := Lib.hid hn
  clear hb
  unfold maxLen at hn
  by_cases hbig : 1048576 < n
  · go_enter Try.func12, Try.ntmps12
    go_wp2
    go_ret
    exact ⟨rfl, by (repeat (first | exact New.refl _ | assumption | refine New.alloc ?_ _ | refine New.drew ?_ | refine New.drewN ?_ _ | refine New.setCell ?_ (by first | omega | (simp; omega) | (simp; done)) _ | refine New.trans ?_ (by assumption)))⟩
  have hm : (n : Int) ≤ 1048576 := by omega
  have hm0 : (0 : Int) ≤ (n : Int) := by omega
  go_enter Try.func12, Try.ntmps12
  go_wp2_with fail
  refine (DrawWidestKid_any A n c HM.out hnc _ HB.out).mono ?_
  rintro e w1 ⟨B1, m1, d1, zs, x, rfl, I1, l1, kd, xb, N1a⟩
  have s1 := N1a.le
  have N1 := Lib.hid ((New.refl w).trans N1a); clear N1a
  replace I1 := Lib.hid I1
  by_cases hok : nodeOk m1 zs x = true
  · obtain ⟨hv, a, rfl, ha⟩ := nodeOk_iff.1 hok
    have HV := Lib.hid hv; have v1 := (vtB_iff.1 hv).1
    have a0 : (0 : Int) ≤ (a : Int) := by omega
    have a1 : (a : Int) < (m1 : Int) := by omega
    clear hok xb
    rcases Nat.eq_zero_or_pos (kidL zs m1 a).length with h0 | h0
    · have EA := Lib.hid (show widA m1 zs (a : Int) = -1 by unfold widA; rw [if_pos (nodeOk_iff.2 ⟨hv, a, rfl, ha⟩), Int.toNat_natCast, List.eq_nil_of_length_eq_zero h0]; rfl)
      clear hv h0
      go_wp2_with fail
      refine (WidestKid_any B1 m1 d1 zs (a : Int) (by omega) _ I1.out).mono ?_
      rw [EA.out]
      rintro e w2 ⟨rfl, N2a⟩
      have s2 := N2a.le
      have I1 := Lib.hid (I1.out.new N2a)
      have N2 := Lib.hid (N1.out.trans N2a); clear N2a
      go_wp2_with fail
      refine (SWidestKid_any B1 m1 d1 zs (a : Int) (by omega) _ I1.out).mono ?_
      rw [EA.out]
      rintro e w3 ⟨rfl, N3a⟩
      have s3 := N3a.le
      have I1 := Lib.hid (I1.out.new N3a)
      have N3 := Lib.hid (N2.out.trans N3a); clear N3a
      go_wp2_with fail
      refine (SWidestKid_any B1 m1 d1 zs (a : Int) (by omega) _ I1.out).mono ?_
      rw [EA.out]
      rintro e w4 ⟨rfl, N4a⟩
      have s4 := N4a.le
      have I1 := Lib.hid (I1.out.new N4a)
      have N4 := Lib.hid (N3.out.trans N4a); clear N4a
      go_wp2
      go_ret
      exact ⟨rfl, N4.out⟩
    · obtain ⟨q, hq, qm, e1, e2⟩ := widA_first hv ha h0
      have KE := kidsA_at hv ha
      have k8 := kids_le (a := a) hv
      obtain ⟨nz, hnz⟩ : ∃ nz, (kidL zs m1 a).length = nz := ⟨_, rfl⟩
      rw [hnz] at k8
      have LZ : Hid ((kidsA m1 zs (a : Int)).length = nz) := Lib.hid (by rw [KE, List.length_map]; exact hnz)
      have KE := Lib.hid KE; have HNZ := Lib.hid hnz
      have nzi : (0 : Int) ≤ (nz : Int) := by omega
      have nz8 : (nz : Int) ≤ 8 := by omega
      have IL := Lib.hid (show inL (kidsA m1 zs (a : Int)) q = true by
        obtain ⟨t, ht, e⟩ := List.getElem_of_mem hq
        refine inL_yes (k := t) (by rw [LZ.out]; omega) ?_
        rw [KE.out, kid_at, show (kidL zs m1 a).getD t 0 = (kidL zs m1 a)[t] by simp [ht], e])
      have EA := Lib.hid e1
      have q0 : (0 : Int) ≤ (q : Int) := by omega
      have NK := Lib.hid (fun t (ht : t < (kidL zs m1 a).length) => (show natW m1 zs (((kidL zs m1 a).getD t 0 : Nat) : Int) = (natL zs m1 ((kidL zs m1 a).getD t 0)).1 ∧ natH m1 zs (((kidL zs m1 a).getD t 0 : Nat) : Int) = (natL zs m1 ((kidL zs m1 a).getD t 0)).2 ∧ nodeOk m1 zs (((kidL zs m1 a).getD t 0 : Nat) : Int) = true by
        have h1 := (kid_mem.1 (kid_get ht)).1
        exact ⟨natW_at hv h1, natH_at hv h1, nodeOk_iff.2 ⟨hv, _, rfl, h1⟩⟩))
      have ND := Lib.hid (fun t (ht : t < (kidL zs m1 a).length) => And.intro (nat_sm hv (kid_mem.1 (kid_get ht)).1) (e2 _ (kid_get ht)))
      have WJ := Lib.hid (natW_at hv qm); have HJ := Lib.hid (natH_at hv qm); have OJ := Lib.hid (nodeOk_iff.2 ⟨hv, q, rfl, qm⟩)
      generalize (natL zs m1 q).1 = X at *
      generalize (natL zs m1 q).2 = Y at *
      clear hv hnz e1 e2 hq h0
      go_wp2_with fail
      refine (WidestKid_any B1 m1 d1 zs (a : Int) (by omega) _ I1.out).mono ?_
      rw [EA.out]
      rintro e w2 ⟨rfl, N2a⟩
      have s2 := N2a.le
      have I1 := Lib.hid (I1.out.new N2a)
      have N2 := Lib.hid (N1.out.trans N2a); clear N2a
      go_wp2_with fail
      refine (SWidestKid_any B1 m1 d1 zs (a : Int) (by omega) _ I1.out).mono ?_
      rw [EA.out]
      rintro e w3 ⟨rfl, N3a⟩
      have s3 := N3a.le
      have I1 := Lib.hid (I1.out.new N3a)
      have N3 := Lib.hid (N2.out.trans N3a); clear N3a
      go_wp2_with fail
      refine (NaturalSize_any B1 m1 d1 zs (q : Int) (by omega) _ I1.out).mono ?_
      rw [WJ.out, HJ.out, OJ.out]
      rintro e w4 ⟨rfl, N4a⟩
      have s4 := N4a.le
      have I1 := Lib.hid (I1.out.new N4a)
      have N4 := Lib.hid (N3.out.trans N4a); clear N4a
      go_wp2_with fail
      refine (KidsOf_ans B1 m1 d1 zs (a : Int) (by omega) _ I1.out).mono ?_
      rintro e w5 ⟨A5, n5, c5, rfl, l5, r5, N5a⟩
      have s5 := N5a.le
      have I1 := Lib.hid (I1.out.new N5a)
      have N5 := Lib.hid (N4.out.trans N5a); clear N5a
      obtain rfl : nz = n5 := by have := LZ.out; omega
      have R5 := Lib.hid r5; clear l5 r5
      have NN := Lib.hid N5.out
      go_wp2
      go_loopw [10] (fun i wr => ∃ j : Nat, j ≤ nz ∧ i = .int .i64 j ∧ Hid (New w5 wr)) (fun i _ => nz - (intOf i).toNat)
      case atStart => exact ⟨0, Nat.zero_le _, rfl, Lib.hid (New.refl _)⟩
      case round =>
        obtain ⟨j, hj, rfl, HW⟩ := hrel
        have j0 : (0 : Int) ≤ (j : Int) := by omega
        have I2 := Lib.hid (I1.out.new HW.out)
        by_cases hlt : j < nz
        · obtain ⟨b', off', rfl, hb', hc'⟩ := (R5.out.ints LZ.out).at_ (by omega)
          have g1 := (HW.out.cells b' _ hb').trans (hc' j hlt)
          rw [KE.out, kid_at] at g1
          have j1 : (j : Int) < (nz : Int) := by omega
          have nk := NK.out j (by rw [HNZ.out]; exact hlt)
          obtain ⟨⟨⟨u1, u2⟩, u3, u4⟩, c1, c2⟩ := ND.out j (by rw [HNZ.out]; exact hlt)
          have GG := Lib.hid (fun W (hW : New w5 W) => (hW.cells b' _ hb').trans (hc' j hlt))
          rw [KE.out, kid_at] at GG
          generalize (kidL zs m1 a).getD j 0 = u at *
          generalize (natL zs m1 u).1 = U at *
          generalize (natL zs m1 u).2 = V at *
          have NKj := Lib.hid nk
          clear hc' nk
          have n1 : ¬ (X < U) := by omega
          by_cases hux : U = X
          · have n2 : ¬ ((u : Int) < (q : Int)) := by have := c2 hux; omega
            clear c1 c2
            go_wp2_with fail
            refine (NaturalSize_any B1 m1 d1 zs (u : Int) (by omega) _ I2.out).mono ?_
            rw [NKj.out.1, NKj.out.2.1, NKj.out.2.2]
            rintro e wc ⟨rfl, Nc⟩
            replace Nc := Lib.hid (HW.out.trans Nc)
            have g2 := GG.out wc Nc.out
            have n3 : (U == X) = true := by rw [hux]; exact beq_self_eq_true _
            clear hux
            go_wp2
            go_roundw
            case rel => exact ⟨j + 1, by omega, by go_num, Nc⟩
            case measure => simp [intOf]; omega
          · have n3 : (U == X) = false := beq_eq_false_iff_ne.2 hux
            clear c1 c2 hux
            go_wp2_with fail
            refine (NaturalSize_any B1 m1 d1 zs (u : Int) (by omega) _ I2.out).mono ?_
            rw [NKj.out.1, NKj.out.2.1, NKj.out.2.2]
            rintro e wc ⟨rfl, Nc⟩
            replace Nc := Lib.hid (HW.out.trans Nc)
            have g2 := GG.out wc Nc.out
            go_wp2
            go_roundw
            case rel => exact ⟨j + 1, by omega, by go_num, Nc⟩
            case measure => simp [intOf]; omega
        · obtain rfl : nz = j := by omega
          have RP := Lib.hid (R5.out.new HW.out)
          go_wp2_with fail
          refine (isInL_any _ nz _ q _ (by omega) _ (RP.out.ints LZ.out)).mono ?_
          rw [IL.out]
          rintro e w' ⟨rfl, rfl⟩
          go_wp2
          go_ret
          exact ⟨rfl, NN.out.trans HW.out⟩
  · have hok' : nodeOk m1 zs x = false := by simpa using hok
    clear hok
    have EA := Lib.hid (widA_no hok'); clear hok'
    go_wp2_with fail
    refine (WidestKid_any B1 m1 d1 zs x (by omega) _ I1.out).mono ?_
    rw [EA.out]
    rintro e w2 ⟨rfl, N2a⟩
    have s2 := N2a.le
    have I1 := Lib.hid (I1.out.new N2a)
    have N2 := Lib.hid (N1.out.trans N2a); clear N2a
    go_wp2_with fail
    refine (SWidestKid_any B1 m1 d1 zs x (by omega) _ I1.out).mono ?_
    rw [EA.out]
    rintro e w3 ⟨rfl, N3a⟩
    have s3 := N3a.le
    have I1 := Lib.hid (I1.out.new N3a)
    have N3 := Lib.hid (N2.out.trans N3a); clear N3a
    go_wp2_with fail
    refine (SWidestKid_any B1 m1 d1 zs x (by omega) _ I1.out).mono ?_
    rw [EA.out]
    rintro e w4 ⟨rfl, N4a⟩
    have s4 := N4a.le
    have I1 := Lib.hid (I1.out.new N4a)
    have N4 := Lib.hid (N3.out.trans N4a); clear N4a
    go_wp2
    go_ret
    exact ⟨rfl, N4.out⟩
end Go.Proofs.Ytecoicnpileegaa
