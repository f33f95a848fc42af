/- The law FnCountIn, walked: a box and the boxes in it are as many as one and those in its boxes, and the first box has all. Condition: the code can be read. -/
import Derived.Test.YtgclajfomolkiaaDrawTt
import Derived.Test.YtgclajfomolkiaaTreeP
namespace Go.Proofs.Ytgclajfomolkiaa
open Go.RowKit

set_option maxHeartbeats 4000000 in
theorem lawCountIn (A : Option Addr) (n c : Nat) (hn : n ≤ maxLen) (hnc : n ≤ c) (w : World) (hb : Bytes w A n) :
    Calls Try.prog 8 #[.slice A n c] w fun e w' => e = .returned (.bool true) ∧ New w w' := by
  have HB := Lib.hid hb; have HM := Lib.hid hn
  clear hb
  unfold maxLen at hn
  by_cases hbig : 1048576 < n
  · go_enter Try.func8, Try.ntmps8
    go_wp2
    go_ret
    exact ⟨rfl, by (repeat (first | exact New.refl _ | assumption | refine New.alloc ?_ _ | refine New.drew ?_ | refine New.drewN ?_ _ | refine New.setCell ?_ (by first | omega | (simp; omega) | (simp; done)) _ | refine New.trans ?_ (by assumption)))⟩
  have hm : (n : Int) ≤ 1048576 := by omega
  have hm0 : (0 : Int) ≤ (n : Int) := by omega
  go_enter Try.func8, Try.ntmps8
  go_wp2_with fail
  refine (DrawCountIn_any A n c HM.out hnc _ HB.out).mono ?_
  rintro e w1 ⟨B1, m1, d1, zs, x, rfl, I1, l1, kd, xb, N1a⟩
  have s1 := N1a.le
  have N1 := Lib.hid ((New.refl w).trans N1a); clear N1a
  replace I1 := Lib.hid I1
  by_cases hok : nodeOk m1 zs x = true
  · obtain ⟨hv, a, rfl, ha⟩ := nodeOk_iff.1 hok
    have HV := Lib.hid hv; have v1 := (vtB_iff.1 hv).1
    have a0 : (0 : Int) ≤ (a : Int) := by omega
    have a1 : (a : Int) < (m1 : Int) := by omega
    clear hok xb
    have KE := kidsA_at hv ha
    have k8 := kids_le (a := a) hv
    obtain ⟨nz, hnz⟩ : ∃ nz, (kidL zs m1 a).length = nz := ⟨_, rfl⟩
    rw [hnz] at k8
    have LZ : Hid ((kidsA m1 zs (a : Int)).length = nz) := Lib.hid (by rw [KE, List.length_map]; exact hnz)
    have KE := Lib.hid KE; have HNZ := Lib.hid hnz
    have nzi : (0 : Int) ≤ (nz : Int) := by omega
    have nz8 : (nz : Int) ≤ 8 := by omega
    have EA := Lib.hid (cntA_at hv ha)
    have e0 := en_bd (zs := zs) ha
    have EN := Lib.hid (fun t (ht : t < nz) => kid_next (link_vt hv) ha (show t < (kidL zs m1 a).length by omega))
    have EF := Lib.hid (kid_first (link_vt hv) ha)
    have KG := Lib.hid (fun t (ht : t < nz) => (link_vt hv).kid_in (kid_get (show t < (kidL zs m1 a).length by omega)))
    have ER := Lib.hid ((cntA_at hv (show 0 < m1 by omega)).trans (by rw [en_root (link_vt hv) (by omega)] : (en zs m1 0 : Int) - ((0 : Nat) : Int) = ((m1 : Nat) : Int) - ((0 : Nat) : Int)))
    have CK := Lib.hid (fun j (hj : j < m1) => cntA_at hv hj)
    have en0 : (1 : Int) ≤ (en zs m1 a : Int) - (a : Int) := by omega
    have en1 : (en zs m1 a : Int) - (a : Int) ≤ 16 := by omega
    obtain ⟨N, hN⟩ : ∃ N, (en zs m1 a : Int) - (a : Int) = N := ⟨_, rfl⟩
    rw [hN] at en0 en1
    have HNN := Lib.hid hN
    clear hv hnz hN e0
    go_wp2_with fail
    refine (CountIn_any B1 m1 d1 zs (a : Int) (by omega) _ I1.out).mono ?_
    rw [EA.out, HNN.out]
    rintro e w2 ⟨rfl, N2a⟩
    have s2 := N2a.le
    have I1 := Lib.hid (I1.out.new N2a)
    have N2 := Lib.hid (N1.out.trans N2a); clear N2a
    go_wp2_with fail
    refine (SCountIn_any B1 m1 d1 zs (a : Int) (by omega) _ I1.out).mono ?_
    rw [EA.out, HNN.out]
    rintro e w3 ⟨rfl, N3a⟩
    have s3 := N3a.le
    have I1 := Lib.hid (I1.out.new N3a)
    have N3 := Lib.hid (N2.out.trans N3a); clear N3a
    go_wp2_with fail
    refine (KidsOf_ans B1 m1 d1 zs (a : Int) (by omega) _ I1.out).mono ?_
    rintro e w4 ⟨A4, n4, c4, rfl, l4, r4, N4a⟩
    have s4 := N4a.le
    have I1 := Lib.hid (I1.out.new N4a)
    have N4 := Lib.hid (N3.out.trans N4a); clear N4a
    obtain rfl : nz = n4 := by have := LZ.out; omega
    have R4 := Lib.hid r4; clear l4 r4
    have NN := Lib.hid N4.out
    have FT : Hid (∀ t, t ≤ nz → ∃ s : Nat, s = (if t < nz then (kidL zs m1 a).getD t 0 else en zs m1 a) - a ∧ 1 ≤ s ∧ s ≤ 16 ∧ (t = nz → (s : Int) = N) ∧ (t = 0 → s = 1)) := Lib.hid (fun t ht => by
      refine ⟨_, rfl, ?_⟩
      have h0 := HNN.out
      have h1 := EF.out
      rw [HNZ.out] at h1
      split
      · rename_i h2
        have h3 := KG.out t h2
        exact ⟨by omega, by omega, fun h => by omega, fun h => by subst h; rw [if_pos h2] at h1; omega⟩
      · exact ⟨by omega, by omega, fun h => by omega, fun h => by subst h; rw [if_neg (by omega)] at h1; omega⟩)
    go_wp2
    go_loopw [6, 8] (fun al i wr => ∃ (j s : Nat), j ≤ nz ∧ i = .int .i64 j ∧ s = (if j < nz then (kidL zs m1 a).getD j 0 else en zs m1 a) - a ∧ al = .int .i64 (s : Int) ∧ Hid (New w4 wr)) (fun _ i _ => nz - (intOf i).toNat)
    case atStart =>
      obtain ⟨s, h1, _, _, _, h5⟩ := FT.out 0 (Nat.zero_le _)
      exact ⟨0, s, Nat.zero_le _, rfl, h1, by rw [h5 rfl]; rfl, Lib.hid (New.refl _)⟩
    case round =>
      obtain ⟨j, s, hj, rfl, hs, rfl, HW⟩ := hrel
      have j0 : (0 : Int) ≤ (j : Int) := by omega
      obtain ⟨s', h1, h2, h3, h4, h5⟩ := FT.out j hj
      obtain rfl : s' = s := by rw [h1, hs]
      have I2 := Lib.hid (I1.out.new HW.out)
      by_cases hlt : j < nz
      · obtain ⟨b', off', rfl, hb', hc'⟩ := (R4.out.ints LZ.out).at_ (by omega)
        have g1 := (HW.out.cells b' _ hb').trans (hc' j hlt)
        rw [KE.out, kid_at] at g1
        obtain ⟨k1, k2, k3⟩ := KG.out j hlt
        have kn := EN.out j hlt
        rw [HNZ.out] at kn
        have c1 := CK.out _ k3
        have kb := en_bd (zs := zs) k3
        obtain ⟨s2, q1, q2, q3, _⟩ := FT.out (j + 1) (by omega)
        rw [← kn] at q1
        rw [if_pos hlt] at hs
        have q4 : Hid (s2 = (if j + 1 < nz then (kidL zs m1 a).getD (j + 1) 0 else en zs m1 a) - a) := Lib.hid (by rw [← kn]; exact q1)
        generalize (kidL zs m1 a).getD j 0 = u at *
        generalize en zs m1 u = v at *
        obtain ⟨z, hz⟩ : ∃ z, (v : Int) - (u : Int) = z := ⟨_, rfl⟩
        rw [hz] at c1
        have C1 := Lib.hid c1
        have zs1 : (s' : Int) + z = (s2 : Int) := by omega
        have z0 : 0 ≤ z := by omega
        have z1 : z ≤ 16 := by omega
        have j1 : (j : Int) < (nz : Int) := by omega
        have s10 : (s' : Int) ≤ 16 := by omega
        have s00 : (0 : Int) ≤ (s' : Int) := by omega
        clear hc' k1 k2 k3 kn c1 kb hs hz h1 h2 h3 h4 h5 q1 q2 q3
        go_wp2_with fail
        refine (CountIn_any B1 m1 d1 zs (u : Int) (by omega) _ I2.out).mono ?_
        rw [C1.out]
        rintro e wc ⟨rfl, Nc⟩
        replace Nc := Lib.hid (HW.out.trans Nc)
        go_wp2
        go_roundw
        case rel => exact ⟨j + 1, s2, by omega, by go_num, q4.out, by first | rfl | (congr 1), Nc⟩
        case measure => simp [intOf]; omega
      · obtain rfl : nz = j := by omega
        have sN := h4 rfl
        have SN := Lib.hid sN
        clear h1 h2 h3 h4 h5 hs
        go_wp2_with fail
        refine (CountIn_any B1 m1 d1 zs ((0 : Nat) : Int) (by omega) _ I2.out).mono ?_
        rw [ER.out]
        rintro e wc ⟨rfl, Nc⟩
        replace Nc := Lib.hid (HW.out.trans Nc)
        go_wp2
        go_ret
        exact ⟨by simp, NN.out.trans Nc.out⟩
  · have hok' : nodeOk m1 zs x = false := by simpa using hok
    clear hok
    have EA := Lib.hid (cntA_no hok'); clear hok'
    go_wp2_with fail
    refine (CountIn_any B1 m1 d1 zs x (by omega) _ I1.out).mono ?_
    rw [EA.out]
    rintro e w2 ⟨rfl, N2a⟩
    have s2 := N2a.le
    have I1 := Lib.hid (I1.out.new N2a)
    have N2 := Lib.hid (N1.out.trans N2a); clear N2a
    go_wp2_with fail
    refine (SCountIn_any B1 m1 d1 zs x (by omega) _ I1.out).mono ?_
    rw [EA.out]
    rintro e w3 ⟨rfl, N3a⟩
    have s3 := N3a.le
    have I1 := Lib.hid (I1.out.new N3a)
    have N3 := Lib.hid (N2.out.trans N3a); clear N3a
    go_wp2_with fail
    refine (SCountIn_any B1 m1 d1 zs x (by omega) _ I1.out).mono ?_
    rw [EA.out]
    rintro e w4 ⟨rfl, N4a⟩
    have s4 := N4a.le
    have I1 := Lib.hid (I1.out.new N4a)
    have N4 := Lib.hid (N3.out.trans N4a); clear N4a
    go_wp2
    go_ret
    exact ⟨rfl, N4.out⟩
end Go.Proofs.Ytgclajfomolkiaa
