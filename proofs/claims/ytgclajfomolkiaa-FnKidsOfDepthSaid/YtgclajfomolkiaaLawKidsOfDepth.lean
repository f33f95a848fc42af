/- The law FnKidsOfDepth, walked: boxes directly in a box are one deeper, and leaves have none. Condition: the code can be read. -/
import Derived.Test.YtgclajfomolkiaaDrawTt
import Derived.Test.YtgclajfomolkiaaTreeP
namespace Go.Proofs.Ytgclajfomolkiaa
open Go.RowKit

set_option maxHeartbeats 4000000 in
theorem lawKidsOfDepth (A : Option Addr) (n c : Nat) (hn : n ≤ maxLen) (hnc : n ≤ c) (w : World) (hb : Bytes w A n) :
    Calls Try.prog 10 #[.slice A n c] w fun e w' => e = .returned (.bool true) ∧ New w w' := by
  have HB := Lib.hid hb; have HM := Lib.hid hn
  clear hb
  unfold maxLen at hn
  by_cases hbig : 1048576 < n
  · go_enter Try.func10, Try.ntmps10
    go_wp2
    go_ret
    exact ⟨rfl, by (repeat (first | exact New.refl _ | assumption | refine New.alloc ?_ _ | refine New.drew ?_ | refine New.drewN ?_ _ | refine New.setCell ?_ (by first | omega | (simp; omega) | (simp; done)) _ | refine New.trans ?_ (by assumption)))⟩
  have hm : (n : Int) ≤ 1048576 := by omega
  have hm0 : (0 : Int) ≤ (n : Int) := by omega
  go_enter Try.func10, Try.ntmps10
  go_wp2_with fail
  refine (DrawKidsOf_any A n c HM.out hnc _ HB.out).mono ?_
  rintro e w1 ⟨B1, m1, d1, zs, x, rfl, I1, l1, kd, xb, N1a⟩
  have s1 := N1a.le
  have N1 := Lib.hid ((New.refl w).trans N1a); clear N1a
  replace I1 := Lib.hid I1
  by_cases hok : nodeOk m1 zs x = true
  · obtain ⟨hv, a, rfl, ha⟩ := nodeOk_iff.1 hok
    have HV := Lib.hid hv; have v1 := (vtB_iff.1 hv).1
    have a0 : (0 : Int) ≤ (a : Int) := by omega
    have a1 : (a : Int) < (m1 : Int) := by omega
    clear hok xb
    have EA := Lib.hid (depA_at hv ha)
    have KD := Lib.hid (fun t (ht : t < (kidL zs m1 a).length) => (show depA m1 zs (((kidL zs m1 a).getD t 0 : Nat) : Int) = (dep zs a : Int) + 1 by
      obtain ⟨h1, h2⟩ := kid_mem.1 (kid_get ht)
      obtain ⟨_, h3⟩ := (link_vt hv).not_kid h1 h2
      rw [depA_at hv h1, dep_par h2 h3]; omega))
    have KI := Lib.hid (fun t (ht : t < (kidL zs m1 a).length) => (kid_mem.1 (kid_get ht)).1)
    have d5 := dep_le5 hv ha
    have KK := Lib.hid (fun (h : 0 < (kidL zs m1 a).length) => kid_kind hv (kid_get h))
    generalize dep zs a = dd at *
    have dd0 : (0 : Int) ≤ (dd : Int) := by omega
    have dd5 : (dd : Int) ≤ 5 := by omega
    have KE := kidsA_at hv ha
    have k8 := kids_le (a := a) hv
    obtain ⟨nz, hnz⟩ : ∃ nz, (kidL zs m1 a).length = nz := ⟨_, rfl⟩
    rw [hnz] at k8
    have LZ : Hid ((kidsA m1 zs (a : Int)).length = nz) := Lib.hid (by rw [KE, List.length_map]; exact hnz)
    have KE := Lib.hid KE; have HNZ := Lib.hid hnz
    have nzi : (0 : Int) ≤ (nz : Int) := by omega
    have nz8 : (nz : Int) ≤ 8 := by omega
    go_wp2_with fail
    refine (KidsOf_ans B1 m1 d1 zs (a : Int) (by omega) _ I1.out).mono ?_
    rintro e w2 ⟨A2, n2, c2, rfl, l2, r2, N2a⟩
    have s2 := N2a.le
    have I1 := Lib.hid (I1.out.new N2a)
    have N2 := Lib.hid (N1.out.trans N2a); clear N2a
    obtain rfl : nz = n2 := by have := LZ.out; omega
    have R2 := Lib.hid r2; clear l2 r2
    go_wp2_with fail
    refine (SKidsOf_ans B1 m1 d1 zs (a : Int) (by omega) _ I1.out).mono ?_
    rintro e w3 ⟨A3, n3, c3, rfl, l3, r3, N3a⟩
    have s3 := N3a.le
    have I1 := Lib.hid (I1.out.new N3a)
    have R2 := Lib.hid (R2.out.new N3a)
    have N3 := Lib.hid (N2.out.trans N3a); clear N3a
    obtain rfl : nz = n3 := by have := LZ.out; omega
    have R3 := Lib.hid r3; clear l3 r3
    go_wp2_with fail
    refine (equalInts_any _ _ nz nz _ _ _ _ (by omega) (by omega) _ (R2.out.ints LZ.out) (R3.out.ints LZ.out)).mono ?_
    rw [decide_eq_true rfl]
    rintro e w4 ⟨rfl, N4a⟩
    have s4 := N4a.le
    have I1 := Lib.hid (I1.out.new N4a)
    have R2 := Lib.hid (R2.out.new N4a)
    have R3 := Lib.hid (R3.out.new N4a)
    have N4 := Lib.hid (N3.out.trans N4a); clear N4a
    clear hv hnz
    go_wp2_with fail
    refine (DepthOf_any B1 m1 d1 zs (a : Int) (by omega) _ I1.out).mono ?_
    rw [EA.out]
    rintro e w5 ⟨rfl, N5a⟩
    have s5 := N5a.le
    have I1 := Lib.hid (I1.out.new N5a)
    have R2 := Lib.hid (R2.out.new N5a)
    have R3 := Lib.hid (R3.out.new N5a)
    have N5 := Lib.hid (N4.out.trans N5a); clear N5a
    have NN := Lib.hid N5.out
    go_wp2
    go_loopw [6] (fun i wr => ∃ j : Nat, j ≤ nz ∧ i = .int .i64 j ∧ Hid (New w5 wr)) (fun i _ => nz - (intOf i).toNat)
    case atStart => exact ⟨0, Nat.zero_le _, rfl, Lib.hid (New.refl _)⟩
    case round =>
      obtain ⟨j, hj, rfl, HW⟩ := hrel
      have j0 : (0 : Int) ≤ (j : Int) := by omega
      have I2 := Lib.hid (I1.out.new HW.out)
      by_cases hlt : j < nz
      · obtain ⟨b', off', rfl, hb', hc'⟩ := (R2.out.ints LZ.out).at_ (by omega)
        have g1 := (HW.out.cells b' _ hb').trans (hc' j hlt)
        rw [KE.out, kid_at] at g1
        have j1 : (j : Int) < (nz : Int) := by omega
        have kd := KD.out j (by rw [HNZ.out]; exact hlt)
        have ki := KI.out j (by rw [HNZ.out]; exact hlt)
        generalize (kidL zs m1 a).getD j 0 = u at *
        have KDj := Lib.hid kd
        clear hc' kd
        go_wp2_with fail
        refine (DepthOf_any B1 m1 d1 zs (u : Int) (by omega) _ I2.out).mono ?_
        rw [KDj.out]
        rintro e wc ⟨rfl, Nc⟩
        replace Nc := Lib.hid (HW.out.trans Nc)
        have I3 := Lib.hid (I1.out.new Nc.out)
        go_wp2_with fail
        refine (DepthOf_any B1 m1 d1 zs (a : Int) (by omega) _ I3.out).mono ?_
        rw [EA.out]
        rintro e wd ⟨rfl, Nd⟩
        replace Nd := Lib.hid (Nc.out.trans Nd)
        go_wp2
        go_roundw
        case rel => exact ⟨j + 1, by omega, by go_num, Nd⟩
        case measure => simp [intOf]; omega
      · obtain rfl : nz = j := by omega
        obtain ⟨b, off, rfl, hb, hc⟩ := I2.out.at_ (by omega)
        have g1 := hc (a * 9 + 1) (by omega)
        rw [← Nat.add_assoc] at g1
        rcases Nat.eq_zero_or_pos nz with h0 | h0
        · subst h0
          obtain ⟨kz, hkz⟩ : ∃ kz, zs.getD (a * 9 + 1) 0 = kz := ⟨_, rfl⟩
          rw [hkz] at g1
          clear hc hkz
          by_cases hk : kz = 0
          · subst hk
            go_wp2
            go_ret
            exact ⟨rfl, NN.out.trans HW.out⟩
          · have hkb : (kz == 0) = false := by simpa using hk
            go_wp2
            go_ret
            exact ⟨rfl, NN.out.trans HW.out⟩
        · have kk := KK.out (by rw [HNZ.out]; exact h0)
          obtain ⟨kz, hkz⟩ : ∃ kz, zs.getD (a * 9 + 1) 0 = kz := ⟨_, rfl⟩
          rw [hkz] at g1
          have hk0 : kz ≠ 0 := by rw [← hkz]; exact kk
          have hkb : (kz == 0) = false := beq_eq_false_iff_ne.2 hk0
          have hkn : (kz != 0) = true := bne_iff_ne.2 hk0
          clear kk hkz
          clear hc
          go_wp2
          go_ret
          exact ⟨rfl, NN.out.trans HW.out⟩
  · have hok' : nodeOk m1 zs x = false := by simpa using hok
    clear hok
    have LZ : Hid ((kidsA m1 zs x).length = 0) := Lib.hid (by rw [kidsA_no hok']; rfl)
    go_wp2_with fail
    refine (KidsOf_ans B1 m1 d1 zs x (by omega) _ I1.out).mono ?_
    rintro e w2 ⟨A2, n2, c2, rfl, l2, r2, N2a⟩
    have s2 := N2a.le
    have I1 := Lib.hid (I1.out.new N2a)
    have N2 := Lib.hid (N1.out.trans N2a); clear N2a
    obtain rfl : n2 = 0 := by rw [← l2]; exact LZ.out
    have R2 := Lib.hid r2; clear l2 r2
    go_wp2_with fail
    refine (SKidsOf_ans B1 m1 d1 zs x (by omega) _ I1.out).mono ?_
    rintro e w3 ⟨A3, n3, c3, rfl, l3, r3, N3a⟩
    have s3 := N3a.le
    have I1 := Lib.hid (I1.out.new N3a)
    have R2 := Lib.hid (R2.out.new N3a)
    have N3 := Lib.hid (N2.out.trans N3a); clear N3a
    obtain rfl : n3 = 0 := by rw [← l3]; exact LZ.out
    have R3 := Lib.hid r3; clear l3 r3
    go_wp2_with fail
    refine (equalInts_any _ _ 0 0 _ _ _ _ (by omega) (by omega) _ (R2.out.ints LZ.out) (R3.out.ints LZ.out)).mono ?_
    rw [decide_eq_true rfl]
    rintro e w4 ⟨rfl, N4a⟩
    have s4 := N4a.le
    have I1 := Lib.hid (I1.out.new N4a)
    have R2 := Lib.hid (R2.out.new N4a)
    have R3 := Lib.hid (R3.out.new N4a)
    have N4 := Lib.hid (N3.out.trans N4a); clear N4a
    have ED := Lib.hid (depA_no hok'); clear hok'
    go_wp2_with fail
    refine (DepthOf_any B1 m1 d1 zs x (by omega) _ I1.out).mono ?_
    rw [ED.out]
    rintro e w5 ⟨rfl, N5a⟩
    have s5 := N5a.le
    have I1 := Lib.hid (I1.out.new N5a)
    have R2 := Lib.hid (R2.out.new N5a)
    have R3 := Lib.hid (R3.out.new N5a)
    have N5 := Lib.hid (N4.out.trans N5a); clear N5a
    go_wp2_with fail
    refine (SKidsOf_ans B1 m1 d1 zs x (by omega) _ I1.out).mono ?_
    rintro e w6 ⟨A6, n6, c6, rfl, l6, r6, N6a⟩
    have s6 := N6a.le
    have I1 := Lib.hid (I1.out.new N6a)
    have R2 := Lib.hid (R2.out.new N6a)
    have R3 := Lib.hid (R3.out.new N6a)
    have N6 := Lib.hid (N5.out.trans N6a); clear N6a
    obtain rfl : n6 = 0 := by rw [← l6]; exact LZ.out
    have R6 := Lib.hid r6; clear l6 r6
    go_wp2_with fail
    refine (equalInts_any _ _ 0 0 _ _ _ _ (by omega) (by omega) _ (R2.out.ints LZ.out) (R6.out.ints LZ.out)).mono ?_
    rw [decide_eq_true rfl]
    rintro e w7 ⟨rfl, N7a⟩
    have s7 := N7a.le
    have I1 := Lib.hid (I1.out.new N7a)
    have R2 := Lib.hid (R2.out.new N7a)
    have R3 := Lib.hid (R3.out.new N7a)
    have R6 := Lib.hid (R6.out.new N7a)
    have N7 := Lib.hid (N6.out.trans N7a); clear N7a
    go_wp2
    go_ret
    exact ⟨rfl, N7.out⟩
end Go.Proofs.Ytgclajfomolkiaa
