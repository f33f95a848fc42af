/- The law FnLayoutRootKid, walked: boxes in rows and columns move with them, those in blocks with what these move with. Condition: the code can be read. -/
import Derived.Test.YtkaagpfgpacfcaaDrawTt
import Derived.Test.YtkaagpfgpacfcaaTreeP
import Derived.Test.YtkaagpfgpacfcaaTreeR
namespace Go.Proofs.Ytkaagpfgpacfcaa
open Go.RowKit

set_option maxHeartbeats 4000000 in
theorem lawLayoutRootKid (A : Option Addr) (n c : Nat) (hn : n ≤ maxLen) (hnc : n ≤ c) (w : World) (hb : Bytes w A n) :
    Calls Try.prog 4 #[.slice A n c] w fun e w' => e = .returned (.bool true) ∧ New w w' := by
  have HB := Lib.hid hb; have HM := Lib.hid hn
  clear hb
  unfold maxLen at hn
  by_cases hbig : 1048576 < n
  · go_enter Try.func4, Try.ntmps4
    go_wp2
    go_ret
    exact ⟨rfl, by (repeat (first | exact New.refl _ | assumption | refine New.alloc ?_ _ | refine New.drew ?_ | refine New.drewN ?_ _ | refine New.setCell ?_ (by first | omega | (simp; omega) | (simp; done)) _ | refine New.trans ?_ (by assumption)))⟩
  have hm : (n : Int) ≤ 1048576 := by omega
  have hm0 : (0 : Int) ≤ (n : Int) := by omega
  go_enter Try.func4, Try.ntmps4
  go_wp2_with fail
  refine (DrawLayoutRoot_any A n c HM.out hnc _ HB.out).mono ?_
  rintro e w1 ⟨B1, m1, d1, zs, x, rfl, I1, l1, kd, xb, N1a⟩
  have s1 := N1a.le
  have N1 := Lib.hid ((New.refl w).trans N1a); clear N1a
  replace I1 := Lib.hid I1
  by_cases hok : nodeOk m1 zs x = true
  · obtain ⟨hv, a, rfl, ha⟩ := nodeOk_iff.1 hok
    have HV := Lib.hid hv; have v1 := (vtB_iff.1 hv).1
    have a0 : (0 : Int) ≤ (a : Int) := by omega
    have a1 : (a : Int) < (m1 : Int) := by omega
    clear hok xb
    have KE := kidsA_at hv ha
    have k8 := kids_le (a := a) hv
    obtain ⟨nz, hnz⟩ : ∃ nz, (kidL zs m1 a).length = nz := ⟨_, rfl⟩
    rw [hnz] at k8
    have LZ : Hid ((kidsA m1 zs (a : Int)).length = nz) := Lib.hid (by rw [KE, List.length_map]; exact hnz)
    have KE := Lib.hid KE; have HNZ := Lib.hid hnz
    have nzi : (0 : Int) ≤ (nz : Int) := by omega
    have nz8 : (nz : Int) ≤ 8 := by omega
    have EA := Lib.hid (show lrtA m1 zs (a : Int) = (lrt zs a : Int) by unfold lrtA; rw [if_pos (nodeOk_iff.2 ⟨hv, a, rfl, ha⟩), Int.toNat_natCast])
    have KG := Lib.hid (fun t (ht : t < nz) => (show (kidL zs m1 a).getD t 0 < m1 ∧ lrtA m1 zs (((kidL zs m1 a).getD t 0 : Nat) : Int) = ((if knd zs a = 1 then lrt zs a else a : Nat) : Int) by
      obtain ⟨h1, h2⟩ := kid_mem.1 (kid_get (show t < (kidL zs m1 a).length by omega))
      obtain ⟨_, h3⟩ := (link_vt hv).not_kid h1 h2
      refine ⟨h1, ?_⟩
      unfold lrtA
      rw [if_pos (nodeOk_iff.2 ⟨hv, _, rfl, h1⟩), Int.toNat_natCast, lrt_par h2 h3]))
    have la := lrt_le zs a
    obtain ⟨L, hL⟩ : ∃ L, lrt zs a = L := ⟨_, rfl⟩
    rw [hL] at la KG EA
    have l0 : (0 : Int) ≤ (L : Int) := by omega
    have l16 : (L : Int) ≤ 16 := by omega
    have la2 : (a : Int) ≤ 16 := by omega
    clear hv hnz hL
    go_wp2_with fail
    refine (LayoutRoot_any B1 m1 d1 zs (a : Int) (by omega) _ I1.out).mono ?_
    rw [EA.out]
    rintro e w2 ⟨rfl, N2a⟩
    have s2 := N2a.le
    have I1 := Lib.hid (I1.out.new N2a)
    have N2 := Lib.hid (N1.out.trans N2a); clear N2a
    go_wp2_with fail
    refine (SLayoutRoot_any B1 m1 d1 zs (a : Int) (by omega) _ I1.out).mono ?_
    rw [EA.out]
    rintro e w3 ⟨rfl, N3a⟩
    have s3 := N3a.le
    have I1 := Lib.hid (I1.out.new N3a)
    have N3 := Lib.hid (N2.out.trans N3a); clear N3a
    go_wp2_with fail
    refine (KidsOf_ans B1 m1 d1 zs (a : Int) (by omega) _ I1.out).mono ?_
    rintro e w4 ⟨A4, n4, c4, rfl, l4, r4, N4a⟩
    have s4 := N4a.le
    have I1 := Lib.hid (I1.out.new N4a)
    have N4 := Lib.hid (N3.out.trans N4a); clear N4a
    obtain rfl : nz = n4 := by have := LZ.out; omega
    have R4 := Lib.hid r4; clear l4 r4
    have NN := Lib.hid N4.out
    obtain ⟨kz, hkz⟩ : ∃ kz, knd zs a = kz := ⟨_, rfl⟩
    rw [hkz] at KG
    have HK := Lib.hid (show zs.getD (a * 9 + 1) 0 = kz from hkz)
    clear hkz
    go_wp2
    go_loopw [7] (fun i wr => ∃ j : Nat, j ≤ nz ∧ i = .int .i64 j ∧ Hid (New w4 wr)) (fun i _ => nz - (intOf i).toNat)
    case atStart => exact ⟨0, Nat.zero_le _, rfl, Lib.hid (New.refl _)⟩
    case round =>
      obtain ⟨j, hj, rfl, HW⟩ := hrel
      have j0 : (0 : Int) ≤ (j : Int) := by omega
      have I2 := Lib.hid (I1.out.new HW.out)
      by_cases hlt : j < nz
      · obtain ⟨b', off', rfl, hb', hc'⟩ := (R4.out.ints LZ.out).at_ (by omega)
        have g1 := (HW.out.cells b' _ hb').trans (hc' j hlt)
        rw [KE.out, kid_at] at g1
        have j1 : (j : Int) < (nz : Int) := by omega
        obtain ⟨ku, ke⟩ := KG.out j hlt
        generalize (kidL zs m1 a).getD j 0 = u at *
        have KEu := Lib.hid ke
        clear hc' ke
        by_cases hk1 : kz = 1
        · subst hk1
          have KE1 : Hid (lrtA m1 zs (u : Int) = (L : Int)) := Lib.hid (by rw [KEu.out, if_pos rfl])
          clear KEu
          go_wp2_with fail
          refine (LayoutRoot_any B1 m1 d1 zs (u : Int) (by omega) _ I2.out).mono ?_
          rw [KE1.out]
          rintro e wc ⟨rfl, Nc⟩
          obtain ⟨b, off, rfl, hb, hc⟩ := (I2.out.new Nc).at_ (by omega)
          have g3 := hc (a * 9 + 1) (by omega)
          rw [← Nat.add_assoc, HK.out] at g3
          replace Nc := Lib.hid (HW.out.trans Nc)
          clear hc hb
          go_wp2
          go_roundw
          case rel => exact ⟨j + 1, by omega, by go_num, Nc⟩
          case measure => simp [intOf]; omega
        · have KE1 : Hid (lrtA m1 zs (u : Int) = (a : Int)) := Lib.hid (by rw [KEu.out, if_neg hk1])
          have kb : (kz == 1) = false := beq_eq_false_iff_ne.2 hk1
          have kn : (kz != 1) = true := bne_iff_ne.2 hk1
          clear KEu
          go_wp2_with fail
          refine (LayoutRoot_any B1 m1 d1 zs (u : Int) (by omega) _ I2.out).mono ?_
          rw [KE1.out]
          rintro e wc ⟨rfl, Nc⟩
          obtain ⟨b, off, rfl, hb, hc⟩ := (I2.out.new Nc).at_ (by omega)
          have g3 := hc (a * 9 + 1) (by omega)
          rw [← Nat.add_assoc, HK.out] at g3
          replace Nc := Lib.hid (HW.out.trans Nc)
          clear hc hb hk1
          go_wp2
          go_roundw
          case rel => exact ⟨j + 1, by omega, by go_num, Nc⟩
          case measure => simp [intOf]; omega
      · obtain rfl : nz = j := by omega
        go_wp2
        go_ret
        exact ⟨rfl, NN.out.trans HW.out⟩
  · have hok' : nodeOk m1 zs x = false := by simpa using hok
    clear hok
    have EA := Lib.hid (show lrtA m1 zs x = -1 by unfold lrtA; rw [hok']; rfl); clear hok'
    go_wp2_with fail
    refine (LayoutRoot_any B1 m1 d1 zs x (by omega) _ I1.out).mono ?_
    rw [EA.out]
    rintro e w2 ⟨rfl, N2a⟩
    have s2 := N2a.le
    have I1 := Lib.hid (I1.out.new N2a)
    have N2 := Lib.hid (N1.out.trans N2a); clear N2a
    go_wp2_with fail
    refine (SLayoutRoot_any B1 m1 d1 zs x (by omega) _ I1.out).mono ?_
    rw [EA.out]
    rintro e w3 ⟨rfl, N3a⟩
    have s3 := N3a.le
    have I1 := Lib.hid (I1.out.new N3a)
    have N3 := Lib.hid (N2.out.trans N3a); clear N3a
    go_wp2_with fail
    refine (SLayoutRoot_any B1 m1 d1 zs x (by omega) _ I1.out).mono ?_
    rw [EA.out]
    rintro e w4 ⟨rfl, N4a⟩
    have s4 := N4a.le
    have I1 := Lib.hid (I1.out.new N4a)
    have N4 := Lib.hid (N3.out.trans N4a); clear N4a
    go_wp2
    go_ret
    exact ⟨rfl, N4.out⟩
end Go.Proofs.Ytkaagpfgpacfcaa
