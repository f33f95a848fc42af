/- The law FnCommonBox, walked: a common box is around both boxes, and no box directly in it is. Condition: the code can be read. -/
import Derived.Test.YtohjfddmnhnfjaaDrawPt
import Derived.Test.YtohjfddmnhnfjaaPathP
namespace Go.Proofs.Ytohjfddmnhnfjaa
open Go.RowKit

set_option maxHeartbeats 4000000 in
theorem lawCommonBox (A : Option Addr) (n c : Nat) (hn : n ≤ maxLen) (hnc : n ≤ c) (w : World) (hb : Bytes w A n) :
    Calls Try.prog 9 #[.slice A n c] w fun e w' => e = .returned (.bool true) ∧ New w w' := by
  have HB := Lib.hid hb; have HM := Lib.hid hn
  clear hb
  unfold maxLen at hn
  by_cases hbig : 1048576 < n
  · go_enter Try.func9, Try.ntmps9
    go_wp2
    go_ret
    exact ⟨rfl, by (repeat (first | exact New.refl _ | assumption | refine New.alloc ?_ _ | refine New.drew ?_ | refine New.drewN ?_ _ | refine New.setCell ?_ (by first | omega | (simp; omega) | (simp; done)) _ | refine New.trans ?_ (by assumption)))⟩
  have hm : (n : Int) ≤ 1048576 := by omega
  have hm0 : (0 : Int) ≤ (n : Int) := by omega
  go_enter Try.func9, Try.ntmps9
  go_wp2_with fail
  refine (DrawCommonBox_any A n c HM.out hnc _ HB.out).mono ?_
  rintro e w1 ⟨B1, m1, d1, zs, x, y, rfl, I1, l1, kd, xb, yb, N1a⟩
  have s1 := N1a.le
  have N1 := Lib.hid ((New.refl w).trans N1a); clear N1a
  replace I1 := Lib.hid I1
  by_cases hok : (nodeOk m1 zs x && nodeOk m1 zs y) = true
  · obtain ⟨hx, hy⟩ : nodeOk m1 zs x = true ∧ nodeOk m1 zs y = true := by simpa using hok
    obtain ⟨hv, a, rfl, ha⟩ := nodeOk_iff.1 hx
    obtain ⟨_, i, rfl, hi⟩ := nodeOk_iff.1 hy
    have HV := Lib.hid hv; have v1 := (vtB_iff.1 hv).1
    have a0 : (0 : Int) ≤ (a : Int) := by omega
    have a1 : (a : Int) < (m1 : Int) := by omega
    have i0 : (0 : Int) ≤ (i : Int) := by omega
    have i1 : (i : Int) < (m1 : Int) := by omega
    clear hok hx hy xb yb
    have EC := Lib.hid (comA_at hv ha hi)
    have kl := com_lt (link_vt hv) ha hi
    have k8 := kids_le (a := comL zs i a) hv
    have KE := Lib.hid (kidsA_at hv kl)
    have C1 := Lib.hid ((arA_at hv kl ha).trans (com_of (link_vt hv) ha hi).1)
    have C2 := Lib.hid ((arA_at hv kl hi).trans (com_of (link_vt hv) ha hi).2.1)
    have CK := Lib.hid (fun x hx h1 => com_kid (x := x) (link_vt hv) ha hi hx h1)
    have AR := Lib.hid (fun j (hj : j < m1) => arA_at hv hj ha)
    have AI := Lib.hid (fun j (hj : j < m1) => arA_at hv hj hi)
    have KM := Lib.hid (fun t (ht : t < (kidL zs m1 (comL zs i a)).length) => kid_get ht)
    generalize comL zs i a = k at *
    obtain ⟨nz, hnz⟩ : ∃ nz, (kidL zs m1 k).length = nz := ⟨_, rfl⟩
    rw [hnz] at k8 KM
    have LZ : Hid ((kidsA m1 zs (k : Int)).length = nz) := Lib.hid (by rw [KE.out, List.length_map]; exact hnz)
    have nz0 : (0 : Int) ≤ (nz : Int) := by omega
    have nz8 : (nz : Int) ≤ 8 := by omega
    have k0 : (0 : Int) ≤ (k : Int) := by omega
    clear hv hnz
    go_wp2_with fail
    refine (CommonBox_any B1 m1 d1 zs (a : Int) (i : Int) (by omega) _ I1.out).mono ?_
    rw [EC.out]
    rintro e w2 ⟨rfl, N2a⟩
    have s2 := N2a.le
    have I1 := Lib.hid (I1.out.new N2a)
    have N2 := Lib.hid (N1.out.trans N2a); clear N2a
    go_wp2_with fail
    refine (SCommonBox_any B1 m1 d1 zs (a : Int) (i : Int) (by omega) _ I1.out).mono ?_
    rw [EC.out]
    rintro e w3 ⟨rfl, N3a⟩
    have s3 := N3a.le
    have I1 := Lib.hid (I1.out.new N3a)
    have N3 := Lib.hid (N2.out.trans N3a); clear N3a
    go_wp2_with fail
    refine (KidsOf_ans B1 m1 d1 zs (k : Int) (by omega) _ I1.out).mono ?_
    rintro e w4 ⟨A4, n4, c4, rfl, l4, r4, N4a⟩
    have s4 := N4a.le
    have I1 := Lib.hid (I1.out.new N4a)
    have N4 := Lib.hid (N3.out.trans N4a); clear N4a
    obtain rfl : nz = n4 := by have := LZ.out; omega
    have R4 := Lib.hid r4; clear l4 r4
    have NN := Lib.hid N4.out
    go_wp2
    go_loopw [8] (fun i wr => ∃ j : Nat, j ≤ nz ∧ i = .int .i64 j ∧ Hid (New w4 wr)) (fun i _ => nz - (intOf i).toNat)
    case atStart => exact ⟨0, Nat.zero_le _, rfl, Lib.hid (New.refl _)⟩
    case round =>
      obtain ⟨j, hj, rfl, HW⟩ := hrel
      have j0 : (0 : Int) ≤ (j : Int) := by omega
      have I2 := Lib.hid (I1.out.new HW.out)
      by_cases hlt : j < nz
      · obtain ⟨b', off', rfl, hb', hc'⟩ := (R4.out.ints LZ.out).at_ (by omega)
        have g1 := (HW.out.cells b' _ hb').trans (hc' j hlt)
        rw [KE.out, kid_at] at g1
        have j1 : (j : Int) < (nz : Int) := by omega
        have km := KM.out j hlt
        have ku := (kid_mem.1 km).1
        generalize (kidL zs m1 k).getD j 0 = u at *
        have ck := CK.out u km
        have AJ := AR.out u ku
        have AK := AI.out u ku
        have hbw : b' < wr.heap.size := Nat.lt_of_lt_of_le hb' HW.out.le
        have G1 := Lib.hid g1
        clear hc' km
        cases hh : anc zs u a
        · rw [hh] at AJ
          replace AJ := Lib.hid AJ
          clear hh ck AK
          go_wp2_with (go_at_call 31; refine (IsAround_any B1 m1 d1 zs (u : Int) (a : Int) (by omega) _ I2.out).mono ?_; rw [AJ.out]; rintro e wc ⟨rfl, Nc⟩; (replace Nc := Lib.hid (HW.out.trans Nc)))
          go_roundw
          case rel => exact ⟨j + 1, by omega, by go_num, Nc⟩
          case measure => simp [intOf]; omega
        · rw [hh] at AJ
          rw [ck hh] at AK
          replace AJ := Lib.hid AJ; replace AK := Lib.hid AK
          clear hh ck
          go_wp2_with fail
          refine (IsAround_any B1 m1 d1 zs (u : Int) (a : Int) (by omega) _ I2.out).mono ?_
          rw [AJ.out]
          rintro e wc ⟨rfl, Nc⟩
          have g2 := (Nc.cells _ _ hbw).trans G1.out
          have I3 := Lib.hid (I2.out.new Nc)
          replace Nc := Lib.hid (HW.out.trans Nc)
          go_wp2_with fail
          refine (IsAround_any B1 m1 d1 zs (u : Int) (i : Int) (by omega) _ I3.out).mono ?_
          rw [AK.out]
          rintro e wd ⟨rfl, Nd⟩
          replace Nd := Lib.hid (Nc.out.trans Nd)
          go_wp2
          go_roundw
          case rel => exact ⟨j + 1, by omega, by go_num, Nd⟩
          case measure => simp [intOf]; omega
      · obtain rfl : nz = j := by omega
        go_wp2_with fail
        refine (IsAround_any B1 m1 d1 zs (k : Int) (a : Int) (by omega) _ I2.out).mono ?_
        rw [C1.out]
        rintro e wc ⟨rfl, Nc⟩
        have I3 := Lib.hid (I2.out.new Nc)
        replace Nc := Lib.hid (HW.out.trans Nc)
        go_wp2_with fail
        refine (IsAround_any B1 m1 d1 zs (k : Int) (i : Int) (by omega) _ I3.out).mono ?_
        rw [C2.out]
        rintro e wd ⟨rfl, Nd⟩
        replace Nd := Lib.hid (Nc.out.trans Nd)
        go_wp2
        go_ret
        exact ⟨rfl, NN.out.trans Nd.out⟩
  · have EC := Lib.hid (show comA m1 zs x y = -1 by unfold comA; exact if_neg hok)
    clear hok
    go_wp2_with fail
    refine (CommonBox_any B1 m1 d1 zs x y (by omega) _ I1.out).mono ?_
    rw [EC.out]
    rintro e w2 ⟨rfl, N2a⟩
    have s2 := N2a.le
    have I1 := Lib.hid (I1.out.new N2a)
    have N2 := Lib.hid (N1.out.trans N2a); clear N2a
    go_wp2_with fail
    refine (SCommonBox_any B1 m1 d1 zs x y (by omega) _ I1.out).mono ?_
    rw [EC.out]
    rintro e w3 ⟨rfl, N3a⟩
    have s3 := N3a.le
    have I1 := Lib.hid (I1.out.new N3a)
    have N3 := Lib.hid (N2.out.trans N3a); clear N3a
    go_wp2_with fail
    refine (SCommonBox_any B1 m1 d1 zs x y (by omega) _ I1.out).mono ?_
    rw [EC.out]
    rintro e w4 ⟨rfl, N4a⟩
    have s4 := N4a.le
    have I1 := Lib.hid (I1.out.new N4a)
    have N4 := Lib.hid (N3.out.trans N4a); clear N4a
    go_wp2
    go_ret
    exact ⟨rfl, N4.out⟩
end Go.Proofs.Ytohjfddmnhnfjaa
