/- The law FnNaturalSize, walked: a leaf is as large as its content and twice its pad, a box at least twice its pad. Condition: the code can be read. -/
import Derived.Test.YtecoicnpileegaaDrawTt
import Derived.Test.YtecoicnpileegaaNatP
import Derived.Test.YtecoicnpileegaaTreeP
namespace Go.Proofs.Ytecoicnpileegaa
open Go.RowKit

set_option maxHeartbeats 4000000 in
theorem lawNaturalSize (A : Option Addr) (n c : Nat) (hn : n ≤ maxLen) (hnc : n ≤ c) (w : World) (hb : Bytes w A n) :
    Calls Try.prog 6 #[.slice A n c] w fun e w' => e = .returned (.bool true) ∧ New w w' := by
  have HB := Lib.hid hb; have HM := Lib.hid hn
  clear hb
  unfold maxLen at hn
  by_cases hbig : 1048576 < n
  · go_enter Try.func6, Try.ntmps6
    go_wp2
    go_ret
    exact ⟨rfl, by (repeat (first | exact New.refl _ | assumption | refine New.alloc ?_ _ | refine New.drew ?_ | refine New.drewN ?_ _ | refine New.setCell ?_ (by first | omega | (simp; omega) | (simp; done)) _ | refine New.trans ?_ (by assumption)))⟩
  have hm : (n : Int) ≤ 1048576 := by omega
  have hm0 : (0 : Int) ≤ (n : Int) := by omega
  go_enter Try.func6, Try.ntmps6
  go_wp2_with fail
  refine (DrawNaturalSize_any A n c HM.out hnc _ HB.out).mono ?_
  rintro e w1 ⟨B1, m1, d1, zs, x, rfl, I1, l1, kd, xb, N1a⟩
  have s1 := N1a.le
  have N1 := Lib.hid ((New.refl w).trans N1a); clear N1a
  replace I1 := Lib.hid I1
  by_cases hok : nodeOk m1 zs x = true
  · obtain ⟨hv, a, rfl, ha⟩ := nodeOk_iff.1 hok
    have HV := Lib.hid hv; have v1 := (vtB_iff.1 hv).1
    have a0 : (0 : Int) ≤ (a : Int) := by omega
    have a1 : (a : Int) < (m1 : Int) := by omega
    clear hok xb
    have WA := Lib.hid (natW_at hv ha); have HA := Lib.hid (natH_at hv ha); have OA := Lib.hid (nodeOk_iff.2 ⟨hv, a, rfl, ha⟩)
    have sz := nat_sm hv ha
    have pz := ((vtB_iff.1 hv).2 a ha).1.2.2.2.1
    have dd1 : decide (m1 ≤ a) = false := decide_eq_false (by omega)
    have WB := ((vtB_iff.1 hv).2 a ha).1.2.1
    have HB2 := ((vtB_iff.1 hv).2 a ha).1.2.2.1
    obtain ⟨P, hP⟩ : ∃ P, zs.getD (a * 9 + 4) 0 = P := ⟨_, rfl⟩
    have HP := Lib.hid hP
    by_cases h0 : knd zs a = 0
    · have HKZ := Lib.hid (show zs.getD (a * 9 + 1) 0 = 0 from h0)
      have NS := nat_leaf hv ha h0
      rw [hP] at NS pz
      rw [if_pos h0] at WB HB2
      obtain ⟨W0, hW0⟩ : ∃ W0, zs.getD (a * 9 + 2) 0 = W0 := ⟨_, rfl⟩
      obtain ⟨H0, hH0⟩ : ∃ H0, zs.getD (a * 9 + 3) 0 = H0 := ⟨_, rfl⟩
      rw [hW0, hH0] at NS
      rw [hW0] at WB
      rw [hH0] at HB2
      have HW0 := Lib.hid hW0; have HH0 := Lib.hid hH0
      have e1 : (natL zs m1 a).1 = W0 + 2 * P := by rw [NS]
      have e2 : (natL zs m1 a).2 = H0 + 2 * P := by rw [NS]
      generalize (natL zs m1 a).1 = X at *
      generalize (natL zs m1 a).2 = Y at *
      have nb1 : (X == W0 + 2 * P) = true := by rw [e1]; exact beq_self_eq_true _
      have nb2 : (Y == H0 + 2 * P) = true := by rw [e2]; exact beq_self_eq_true _
      clear hv h0 NS e1 e2 hP hW0 hH0
      go_wp2_with fail
      refine (NaturalSize_any B1 m1 d1 zs (a : Int) (by omega) _ I1.out).mono ?_
      rw [WA.out, HA.out, OA.out]
      rintro e w2 ⟨rfl, N2a⟩
      have s2 := N2a.le
      have I1 := Lib.hid (I1.out.new N2a)
      have N2 := Lib.hid (N1.out.trans N2a); clear N2a
      go_wp2_with fail
      refine (SNaturalSize_any B1 m1 d1 zs (a : Int) (by omega) _ I1.out).mono ?_
      rw [WA.out, HA.out, OA.out]
      rintro e w3 ⟨rfl, N3a⟩
      have s3 := N3a.le
      have I1 := Lib.hid (I1.out.new N3a)
      have N3 := Lib.hid (N2.out.trans N3a); clear N3a
      obtain ⟨b, off, rfl, hb, hc⟩ := I1.out.at_ (by omega)
      have g0 := hc (a * 9) (by omega)
      have g1 := hc (a * 9 + 1) (by omega)
      rw [HKZ.out, ← Nat.add_assoc] at g1
      have g2 := hc (a * 9 + 2) (by omega)
      rw [← Nat.add_assoc] at g2
      have g3 := hc (a * 9 + 3) (by omega)
      rw [← Nat.add_assoc] at g3
      have g4 := hc (a * 9 + 4) (by omega)
      rw [HP.out, ← Nat.add_assoc] at g4
      have g5 := hc (a * 9 + 5) (by omega)
      rw [← Nat.add_assoc] at g5
      have g6 := hc (a * 9 + 6) (by omega)
      rw [← Nat.add_assoc] at g6
      have g7 := hc (a * 9 + 7) (by omega)
      rw [← Nat.add_assoc] at g7
      have g8 := hc (a * 9 + 8) (by omega)
      rw [← Nat.add_assoc] at g8
      clear hc
      rw [HW0.out] at g2
      rw [HH0.out] at g3
      have NN := Lib.hid N3.out
      go_wp2
      go_ret
      exact ⟨rfl, New.alloc NN.out _⟩
    · have GE := nat_ge hv ha h0
      have KE := kidsA_at hv ha
      have k8 := kids_le (a := a) hv
      obtain ⟨nz, hnz⟩ : ∃ nz, (kidL zs m1 a).length = nz := ⟨_, rfl⟩
      rw [hnz] at k8
      have LZ : Hid ((kidsA m1 zs (a : Int)).length = nz) := Lib.hid (by rw [KE, List.length_map]; exact hnz)
      have KE := Lib.hid KE; have HNZ := Lib.hid hnz
      have nzi : (0 : Int) ≤ (nz : Int) := by omega
      have nz8 : (nz : Int) ≤ 8 := by omega
      have N0 := fun (h : (kidL zs m1 a).length = 0) => nat_none hv ha h0 h
      rw [hP] at GE pz N0
      rw [hnz] at N0
      obtain ⟨kz, hkz⟩ : ∃ kz, zs.getD (a * 9 + 1) 0 = kz := ⟨_, rfl⟩
      have HKZ := Lib.hid hkz
      have k0 : (kz == 0) = false := by rw [← hkz]; exact beq_eq_false_iff_ne.2 h0
      generalize (natL zs m1 a).1 = X at *
      generalize (natL zs m1 a).2 = Y at *
      obtain ⟨ge1, ge2⟩ := GE
      replace N0 := Lib.hid N0
      clear hv h0 hP hkz hnz WB HB2
      go_wp2_with fail
      refine (NaturalSize_any B1 m1 d1 zs (a : Int) (by omega) _ I1.out).mono ?_
      rw [WA.out, HA.out, OA.out]
      rintro e w2 ⟨rfl, N2a⟩
      have s2 := N2a.le
      have I1 := Lib.hid (I1.out.new N2a)
      have N2 := Lib.hid (N1.out.trans N2a); clear N2a
      go_wp2_with fail
      refine (SNaturalSize_any B1 m1 d1 zs (a : Int) (by omega) _ I1.out).mono ?_
      rw [WA.out, HA.out, OA.out]
      rintro e w3 ⟨rfl, N3a⟩
      have s3 := N3a.le
      have I1 := Lib.hid (I1.out.new N3a)
      have N3 := Lib.hid (N2.out.trans N3a); clear N3a
      obtain ⟨b, off, rfl, hb, hc⟩ := I1.out.at_ (by omega)
      have g0 := hc (a * 9) (by omega)
      have g1 := hc (a * 9 + 1) (by omega)
      rw [HKZ.out, ← Nat.add_assoc] at g1
      have g2 := hc (a * 9 + 2) (by omega)
      rw [← Nat.add_assoc] at g2
      have g3 := hc (a * 9 + 3) (by omega)
      rw [← Nat.add_assoc] at g3
      have g4 := hc (a * 9 + 4) (by omega)
      rw [HP.out, ← Nat.add_assoc] at g4
      have g5 := hc (a * 9 + 5) (by omega)
      rw [← Nat.add_assoc] at g5
      have g6 := hc (a * 9 + 6) (by omega)
      rw [← Nat.add_assoc] at g6
      have g7 := hc (a * 9 + 7) (by omega)
      rw [← Nat.add_assoc] at g7
      have g8 := hc (a * 9 + 8) (by omega)
      rw [← Nat.add_assoc] at g8
      clear hc
      have NN := Lib.hid N3.out
      rcases Nat.eq_zero_or_pos nz with hz | hz
      · subst hz
        obtain ⟨e1, e2⟩ := N0.out rfl
        have nb1 : (X == 2 * P) = true := by rw [e1]; exact beq_self_eq_true _
        have nb2 : (Y == 2 * P) = true := by rw [e2]; exact beq_self_eq_true _
        clear e1 e2
        go_wp2_with fail
        refine (KidsOf_ans _ m1 d1 zs (a : Int) (by omega) _ (I1.out.new ((New.refl _).alloc _))).mono ?_
        rintro e wk ⟨Ak, nk, ck, rfl, lk, rk, Nk⟩
        obtain rfl : 0 = nk := by have := LZ.out; omega
        have t4 := (Nk.cells w3.heap.size 4 (by simp)).trans (by simp [go_sem] : _ = some (Value.int .i64 P))
        have NW := Lib.hid ((NN.out.alloc _).trans Nk)
        clear Nk lk rk
        go_wp2
        go_ret
        exact ⟨rfl, NW.out⟩
      · have nz1 : (0 : Int) < (nz : Int) := by omega
        go_wp2_with fail
        refine (KidsOf_ans _ m1 d1 zs (a : Int) (by omega) _ (I1.out.new ((New.refl _).alloc _))).mono ?_
        rintro e wk ⟨Ak, nk, ck, rfl, lk, rk, Nk⟩
        obtain rfl : nz = nk := by have := LZ.out; omega
        have t4 := (Nk.cells w3.heap.size 4 (by simp)).trans (by simp [go_sem] : _ = some (Value.int .i64 P))
        have NW := Lib.hid ((NN.out.alloc _).trans Nk)
        clear Nk lk rk
        go_wp2
        go_ret
        exact ⟨rfl, NW.out⟩
  · have hok' : nodeOk m1 zs x = false := by simpa using hok
    clear hok
    have WZ := Lib.hid (natW_no hok'); have HZ := Lib.hid (natH_no hok'); have OZ := Lib.hid hok'; clear hok'
    go_wp2_with fail
    refine (NaturalSize_any B1 m1 d1 zs x (by omega) _ I1.out).mono ?_
    rw [WZ.out, HZ.out, OZ.out]
    rintro e w2 ⟨rfl, N2a⟩
    have s2 := N2a.le
    have I1 := Lib.hid (I1.out.new N2a)
    have N2 := Lib.hid (N1.out.trans N2a); clear N2a
    go_wp2_with fail
    refine (SNaturalSize_any B1 m1 d1 zs x (by omega) _ I1.out).mono ?_
    rw [WZ.out, HZ.out, OZ.out]
    rintro e w3 ⟨rfl, N3a⟩
    have s3 := N3a.le
    have I1 := Lib.hid (I1.out.new N3a)
    have N3 := Lib.hid (N2.out.trans N3a); clear N3a
    go_wp2
    go_ret
    exact ⟨rfl, N3.out⟩
end Go.Proofs.Ytecoicnpileegaa
