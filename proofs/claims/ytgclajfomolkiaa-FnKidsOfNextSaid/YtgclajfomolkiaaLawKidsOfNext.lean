/- The law FnKidsOfNext, walked: boxes begin with their first boxes, which follow each other. Condition: the code can be read. -/
import Derived.Test.YtgclajfomolkiaaDrawTt
import Derived.Test.YtgclajfomolkiaaTreeP
import Derived.Deep.RegionHeld3
namespace Go.Proofs.Ytgclajfomolkiaa
open Go.RowKit

set_option maxHeartbeats 4000000 in
theorem lawKidsOfNext (A : Option Addr) (n c : Nat) (hn : n ≤ maxLen) (hnc : n ≤ c) (w : World) (hb : Bytes w A n) :
    Calls Try.prog 11 #[.slice A n c] w fun e w' => e = .returned (.bool true) ∧ New w w' := by
  have HB := Lib.hid hb; have HM := Lib.hid hn
  clear hb
  unfold maxLen at hn
  by_cases hbig : 1048576 < n
  · go_enter Try.func11, Try.ntmps11
    go_wp2
    go_ret
    exact ⟨rfl, by (repeat (first | exact New.refl _ | assumption | refine New.alloc ?_ _ | refine New.drew ?_ | refine New.drewN ?_ _ | refine New.setCell ?_ (by first | omega | (simp; omega) | (simp; done)) _ | refine New.trans ?_ (by assumption)))⟩
  have hm : (n : Int) ≤ 1048576 := by omega
  have hm0 : (0 : Int) ≤ (n : Int) := by omega
  go_enter Try.func11, Try.ntmps11
  go_wp2_with fail
  refine (DrawKidsOf_any A n c HM.out hnc _ HB.out).mono ?_
  rintro e w1 ⟨B1, m1, d1, zs, x, rfl, I1, l1, kd, xb, N1a⟩
  have s1 := N1a.le
  have N1 := Lib.hid ((New.refl w).trans N1a); clear N1a
  replace I1 := Lib.hid I1
  by_cases hok : nodeOk m1 zs x = true
  · obtain ⟨hv, a, rfl, ha⟩ := nodeOk_iff.1 hok
    have HV := Lib.hid hv; have v1 := (vtB_iff.1 hv).1
    have a0 : (0 : Int) ≤ (a : Int) := by omega
    have a1 : (a : Int) < (m1 : Int) := by omega
    clear hok xb
    have EN := Lib.hid (fun t (ht : t + 1 < (kidL zs m1 a).length) => (show cntA m1 zs (((kidL zs m1 a).getD t 0 : Nat) : Int) = (((kidL zs m1 a).getD (t + 1) 0 : Nat) : Int) - (((kidL zs m1 a).getD t 0 : Nat) : Int) by
      have h1 := (link_vt hv).kid_in (kid_get (show t < (kidL zs m1 a).length by omega))
      rw [cntA_at hv h1.2.2, kid_next (link_vt hv) ha (by omega), if_pos ht]))
    have EF := Lib.hid (kid_first (link_vt hv) ha)
    have KI := Lib.hid (fun t (ht : t < (kidL zs m1 a).length) => (kid_mem.1 (kid_get ht)).1)
    have KE := kidsA_at hv ha
    have k8 := kids_le (a := a) hv
    obtain ⟨nz, hnz⟩ : ∃ nz, (kidL zs m1 a).length = nz := ⟨_, rfl⟩
    rw [hnz] at k8
    have LZ : Hid ((kidsA m1 zs (a : Int)).length = nz) := Lib.hid (by rw [KE, List.length_map]; exact hnz)
    have KE := Lib.hid KE; have HNZ := Lib.hid hnz
    have nzi : (0 : Int) ≤ (nz : Int) := by omega
    have nz8 : (nz : Int) ≤ 8 := by omega
    go_wp2_with fail
    refine (KidsOf_ans B1 m1 d1 zs (a : Int) (by omega) _ I1.out).mono ?_
    rintro e w2 ⟨A2, n2, c2, rfl, l2, r2, N2a⟩
    have s2 := N2a.le
    have I1 := Lib.hid (I1.out.new N2a)
    have N2 := Lib.hid (N1.out.trans N2a); clear N2a
    obtain rfl : nz = n2 := by have := LZ.out; omega
    have R2 := Lib.hid r2; clear l2 r2
    go_wp2_with fail
    refine (SKidsOf_ans B1 m1 d1 zs (a : Int) (by omega) _ I1.out).mono ?_
    rintro e w3 ⟨A3, n3, c3, rfl, l3, r3, N3a⟩
    have s3 := N3a.le
    have I1 := Lib.hid (I1.out.new N3a)
    have R2 := Lib.hid (R2.out.new N3a)
    have N3 := Lib.hid (N2.out.trans N3a); clear N3a
    obtain rfl : nz = n3 := by have := LZ.out; omega
    have R3 := Lib.hid r3; clear l3 r3
    go_wp2_with fail
    refine (equalInts_any _ _ nz nz _ _ _ _ (by omega) (by omega) _ (R2.out.ints LZ.out) (R3.out.ints LZ.out)).mono ?_
    rw [decide_eq_true rfl]
    rintro e w4 ⟨rfl, N4a⟩
    have s4 := N4a.le
    have I1 := Lib.hid (I1.out.new N4a)
    have R2 := Lib.hid (R2.out.new N4a)
    have R3 := Lib.hid (R3.out.new N4a)
    have N4 := Lib.hid (N3.out.trans N4a); clear N4a
    clear hv
    rcases Nat.eq_zero_or_pos nz with h0 | h0
    · subst h0
      go_wp2_with fail
      refine (SKidsOf_ans B1 m1 d1 zs (a : Int) (by omega) _ I1.out).mono ?_
      rintro e w5 ⟨A5, n5, c5, rfl, l5, r5, N5a⟩
      have s5 := N5a.le
      have I1 := Lib.hid (I1.out.new N5a)
      have R2 := Lib.hid (R2.out.new N5a)
      have R3 := Lib.hid (R3.out.new N5a)
      have N5 := Lib.hid (N4.out.trans N5a); clear N5a
      obtain rfl : n5 = 0 := by rw [← l5]; exact LZ.out
      have R5 := Lib.hid r5; clear l5 r5
      go_wp2_with fail
      refine (equalInts_any _ _ 0 0 _ _ _ _ (by omega) (by omega) _ (R2.out.ints LZ.out) (R5.out.ints LZ.out)).mono ?_
      rw [decide_eq_true rfl]
      rintro e w6 ⟨rfl, N6a⟩
      have s6 := N6a.le
      have I1 := Lib.hid (I1.out.new N6a)
      have R2 := Lib.hid (R2.out.new N6a)
      have R3 := Lib.hid (R3.out.new N6a)
      have R5 := Lib.hid (R5.out.new N6a)
      have N6 := Lib.hid (N5.out.trans N6a); clear N6a
      go_wp2
      go_ret
      exact ⟨rfl, N6.out⟩
    · have nb : ((nz : Int) == 0) = false := by simp; omega
      have h0i : (0 : Int) < (nz : Int) := by omega
      have EF2 : Hid ((kidL zs m1 a).getD 0 0 = a + 1) := Lib.hid (by have := EF.out; rw [hnz, if_pos h0] at this; exact this)
      have NN := Lib.hid N4.out
      clear hnz EF
      obtain ⟨b', off', rfl, hb', hc'⟩ := (R2.out.ints LZ.out).at_ h0
      have HC := Lib.hid hc'
      clear hc'
      go_wp2
      go_loopw [6] (fun i wr => ∃ j : Nat, 1 ≤ j ∧ j ≤ nz ∧ i = .int .i64 j ∧ Hid (New w4 wr)) (fun i _ => nz - (intOf i).toNat)
      case atStart => exact ⟨1, Nat.le_refl _, h0, rfl, Lib.hid (New.refl _)⟩
      case round =>
        obtain ⟨j, hj1, hj, rfl, HW⟩ := hrel
        obtain ⟨t, rfl⟩ : ∃ t, j = t + 1 := ⟨j - 1, by omega⟩
        have I2 := Lib.hid (I1.out.new HW.out)
        have j0 : (0 : Int) ≤ (t : Int) + 1 := by omega
        have j00 : (0 : Int) ≤ (t : Int) := by omega
        by_cases hlt : t + 1 < nz
        · have g1 := (HW.out.cells b' _ hb').trans (HC.out (t + 1) hlt)
          have g2 := (HW.out.cells b' _ hb').trans (HC.out t (by omega))
          rw [KE.out, kid_at] at g1 g2
          have j1 : (t : Int) + 1 < (nz : Int) := by omega
          have en := EN.out t (by rw [HNZ.out]; omega)
          have k1 := KI.out t (by rw [HNZ.out]; omega)
          have k2 := KI.out (t + 1) (by rw [HNZ.out]; omega)
          generalize (kidL zs m1 a).getD (t + 1) 0 = u at *
          generalize (kidL zs m1 a).getD t 0 = v at *
          obtain ⟨N, hN⟩ : ∃ N, (u : Int) - (v : Int) = N := ⟨_, rfl⟩
          rw [hN] at en
          have ENj := Lib.hid en
          have t0 : (0 : Int) ≤ (t : Int) := by omega
          have uv : (v : Int) + N = (u : Int) := by omega
          have u0 : (0 : Int) ≤ (u : Int) := by omega
          have v0 : (0 : Int) ≤ (v : Int) := by omega
          have u16 : (u : Int) ≤ 16 := by omega
          have v16 : (v : Int) ≤ 16 := by omega
          have N0 : -16 ≤ N := by omega
          have N16 : N ≤ 16 := by omega
          have uw : IntKind.i64.wrap (u : Int) = (u : Int) := IntWalk.i64_in _ (by omega)
          clear hN
          have hbw : b' < wr.drew.heap.size := Nat.lt_of_lt_of_le hb' HW.out.drew.le
          have K1 : wr.drew.cell? ⟨b', off' + (t + 1), none⟩ = some (.int .i64 (u : Int)) ∧ wr.drew.cell? ⟨b', off' + t, none⟩ = some (.int .i64 (v : Int)) := ⟨g1, g2⟩
          have K1h := Lib.hid K1
          have I3 := Lib.hid (I2.out.new (New.refl wr).drew)
          have HD := Lib.hid HW.out.drew
          have KF := Lib.hid (fun (W : World) (h : New wr.drew W) => (⟨(h.cells _ _ hbw).trans K1h.out.1, (h.cells _ _ hbw).trans K1h.out.2⟩ : W.cell? ⟨b', off' + (t + 1), none⟩ = some (.int .i64 (u : Int)) ∧ W.cell? ⟨b', off' + t, none⟩ = some (.int .i64 (v : Int))))
          have t1 : (t : Int) < (nz : Int) := by omega
          have tw : IntKind.i64.wrap (t : Int) = (t : Int) := IntWalk.i64_in _ (by omega)
          clear en g1 g2
          go_wp2
          go_region_held3 (fun w' => w'.cell? ⟨b', off' + (t + 1), none⟩ = some (.int .i64 (u : Int)) ∧ w'.cell? ⟨b', off' + t, none⟩ = some (.int .i64 (v : Int)))
            (first | exact K1 | exact K2 | assumption)
            (first | (go_at_call 29; refine (CountIn_any B1 m1 d1 zs (v : Int) (by omega) _ I3.out).mono ?_; rw [ENj.out]; rintro e wc ⟨rfl, Nc⟩; (have K2 := KF.out wc Nc); (replace Nc := Lib.hid (HD.out.trans Nc))))
          go_wp2
          go_roundw
          case rel => exact ⟨t + 1 + 1, by omega, by omega, by go_num, Nc⟩
          case measure => simp [intOf]; omega
        · have g1 := (HW.out.cells b' _ hb').trans (HC.out 0 h0)
          rw [KE.out, kid_at, EF2.out, Nat.add_zero] at g1
          have ap : (0 : Int) ≤ (a : Int) := by omega
          have aq : (a : Int) ≤ 16 := by omega
          have aw : ((a + 1 : Nat) : Int) = (a : Int) + 1 := by omega
          rw [aw] at g1
          obtain rfl : nz = t + 1 := by omega
          go_wp2
          go_ret
          exact ⟨by first | rfl | simp, NN.out.trans HW.out⟩
  · have hok' : nodeOk m1 zs x = false := by simpa using hok
    clear hok
    have LZ : Hid ((kidsA m1 zs x).length = 0) := Lib.hid (by rw [kidsA_no hok']; rfl)
    go_wp2_with fail
    refine (KidsOf_ans B1 m1 d1 zs x (by omega) _ I1.out).mono ?_
    rintro e w2 ⟨A2, n2, c2, rfl, l2, r2, N2a⟩
    have s2 := N2a.le
    have I1 := Lib.hid (I1.out.new N2a)
    have N2 := Lib.hid (N1.out.trans N2a); clear N2a
    obtain rfl : n2 = 0 := by rw [← l2]; exact LZ.out
    have R2 := Lib.hid r2; clear l2 r2
    go_wp2_with fail
    refine (SKidsOf_ans B1 m1 d1 zs x (by omega) _ I1.out).mono ?_
    rintro e w3 ⟨A3, n3, c3, rfl, l3, r3, N3a⟩
    have s3 := N3a.le
    have I1 := Lib.hid (I1.out.new N3a)
    have R2 := Lib.hid (R2.out.new N3a)
    have N3 := Lib.hid (N2.out.trans N3a); clear N3a
    obtain rfl : n3 = 0 := by rw [← l3]; exact LZ.out
    have R3 := Lib.hid r3; clear l3 r3
    go_wp2_with fail
    refine (equalInts_any _ _ 0 0 _ _ _ _ (by omega) (by omega) _ (R2.out.ints LZ.out) (R3.out.ints LZ.out)).mono ?_
    rw [decide_eq_true rfl]
    rintro e w4 ⟨rfl, N4a⟩
    have s4 := N4a.le
    have I1 := Lib.hid (I1.out.new N4a)
    have R2 := Lib.hid (R2.out.new N4a)
    have R3 := Lib.hid (R3.out.new N4a)
    have N4 := Lib.hid (N3.out.trans N4a); clear N4a
    clear hok'
    go_wp2_with fail
    refine (SKidsOf_ans B1 m1 d1 zs x (by omega) _ I1.out).mono ?_
    rintro e w5 ⟨A5, n5, c5, rfl, l5, r5, N5a⟩
    have s5 := N5a.le
    have I1 := Lib.hid (I1.out.new N5a)
    have R2 := Lib.hid (R2.out.new N5a)
    have R3 := Lib.hid (R3.out.new N5a)
    have N5 := Lib.hid (N4.out.trans N5a); clear N5a
    obtain rfl : n5 = 0 := by rw [← l5]; exact LZ.out
    have R5 := Lib.hid r5; clear l5 r5
    go_wp2_with fail
    refine (equalInts_any _ _ 0 0 _ _ _ _ (by omega) (by omega) _ (R2.out.ints LZ.out) (R5.out.ints LZ.out)).mono ?_
    rw [decide_eq_true rfl]
    rintro e w6 ⟨rfl, N6a⟩
    have s6 := N6a.le
    have I1 := Lib.hid (I1.out.new N6a)
    have R2 := Lib.hid (R2.out.new N6a)
    have R3 := Lib.hid (R3.out.new N6a)
    have R5 := Lib.hid (R5.out.new N6a)
    have N6 := Lib.hid (N5.out.trans N6a); clear N6a
    go_wp2
    go_ret
    exact ⟨rfl, N6.out⟩
end Go.Proofs.Ytgclajfomolkiaa
