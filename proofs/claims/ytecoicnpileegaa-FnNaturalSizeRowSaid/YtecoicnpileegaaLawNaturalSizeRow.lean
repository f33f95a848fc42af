/- The law FnNaturalSizeRow, walked: a row is as wide as its boxes and gaps and twice its pad, a block is so high. Condition: the code can be read. -/
import Derived.Test.YtecoicnpileegaaDrawTt
import Derived.Test.YtecoicnpileegaaNatP
import Derived.Test.YtecoicnpileegaaTreeP
namespace Go.Proofs.Ytecoicnpileegaa
open Go.RowKit

set_option maxHeartbeats 4000000 in
theorem lawNaturalSizeRow (A : Option Addr) (n c : Nat) (hn : n ≤ maxLen) (hnc : n ≤ c) (w : World) (hb : Bytes w A n) :
    Calls Try.prog 8 #[.slice A n c] w fun e w' => e = .returned (.bool true) ∧ New w w' := by
  have HB := Lib.hid hb; have HM := Lib.hid hn
  clear hb
  unfold maxLen at hn
  by_cases hbig : 1048576 < n
  · go_enter Try.func8, Try.ntmps8
    go_wp2
    go_ret
    exact ⟨rfl, by (repeat (first | exact New.refl _ | assumption | refine New.alloc ?_ _ | refine New.drew ?_ | refine New.drewN ?_ _ | refine New.setCell ?_ (by first | omega | (simp; omega) | (simp; done)) _ | refine New.trans ?_ (by assumption)))⟩
  have hm : (n : Int) ≤ 1048576 := by omega
  have hm0 : (0 : Int) ≤ (n : Int) := by omega
  go_enter Try.func8, Try.ntmps8
  go_wp2_with fail
  refine (DrawNaturalSize_any A n c HM.out hnc _ HB.out).mono ?_
  rintro e w1 ⟨B1, m1, d1, zs, x, rfl, I1, l1, kd, xb, N1a⟩
  have s1 := N1a.le
  have N1 := Lib.hid ((New.refl w).trans N1a); clear N1a
  replace I1 := Lib.hid I1
  by_cases hok : nodeOk m1 zs x = true
  · obtain ⟨hv, a, rfl, ha⟩ := nodeOk_iff.1 hok
    have HV := Lib.hid hv; have v1 := (vtB_iff.1 hv).1
    have a0 : (0 : Int) ≤ (a : Int) := by omega
    have a1 : (a : Int) < (m1 : Int) := by omega
    clear hok xb
    have WA := Lib.hid (natW_at hv ha); have HA := Lib.hid (natH_at hv ha); have OA := Lib.hid (nodeOk_iff.2 ⟨hv, a, rfl, ha⟩)
    have sz := nat_sm hv ha
    have pz := ((vtB_iff.1 hv).2 a ha).1.2.2.2.1
    have dd1 : decide (m1 ≤ a) = false := decide_eq_false (by omega)
    by_cases h0 : knd zs a = 0
    · have HKZ := Lib.hid (show zs.getD (a * 9 + 1) 0 = 0 from h0)
      generalize (natL zs m1 a).1 = X at *
      generalize (natL zs m1 a).2 = Y at *
      clear hv h0 pz
      go_wp2_with fail
      refine (NaturalSize_any B1 m1 d1 zs (a : Int) (by omega) _ I1.out).mono ?_
      rw [WA.out, HA.out, OA.out]
      rintro e w2 ⟨rfl, N2a⟩
      have s2 := N2a.le
      have I1 := Lib.hid (I1.out.new N2a)
      have N2 := Lib.hid (N1.out.trans N2a); clear N2a
      go_wp2_with fail
      refine (SNaturalSize_any B1 m1 d1 zs (a : Int) (by omega) _ I1.out).mono ?_
      rw [WA.out, HA.out, OA.out]
      rintro e w3 ⟨rfl, N3a⟩
      have s3 := N3a.le
      have I1 := Lib.hid (I1.out.new N3a)
      have N3 := Lib.hid (N2.out.trans N3a); clear N3a
      obtain ⟨b, off, rfl, hb, hc⟩ := I1.out.at_ (by omega)
      have g1 := hc (a * 9 + 1) (by omega)
      rw [HKZ.out, ← Nat.add_assoc] at g1
      clear hc
      go_wp2
      go_ret
      exact ⟨rfl, N3.out⟩
    · by_cases hk : knd zs a = 2
      · have NT := nat_row hv ha hk
        have KE := kidsA_at hv ha
        have k8 := kids_le (a := a) hv
        obtain ⟨nz, hnz⟩ : ∃ nz, (kidL zs m1 a).length = nz := ⟨_, rfl⟩
        rw [hnz] at k8
        have LZ : Hid ((kidsA m1 zs (a : Int)).length = nz) := Lib.hid (by rw [KE, List.length_map]; exact hnz)
        have KE := Lib.hid KE; have HNZ := Lib.hid hnz
        have nzi : (0 : Int) ≤ (nz : Int) := by omega
        have nz8 : (nz : Int) ≤ 8 := by omega
        obtain ⟨F, hF⟩ : ∃ F : Nat → Int, (fun x => (natL zs m1 x).1) = F := ⟨_, rfl⟩
        have NK := Lib.hid (fun t (ht : t < (kidL zs m1 a).length) => (show ∃ U V : Int, natW m1 zs (((kidL zs m1 a).getD t 0 : Nat) : Int) = U ∧ natH m1 zs (((kidL zs m1 a).getD t 0 : Nat) : Int) = V ∧ nodeOk m1 zs (((kidL zs m1 a).getD t 0 : Nat) : Int) = true ∧ (0 ≤ U ∧ U ≤ 10000) ∧ (0 ≤ V ∧ V ≤ 10000) ∧ F ((kidL zs m1 a).getD t 0) = U by
          have h1 := (kid_mem.1 (kid_get ht)).1
          have h2 := nat_sm hv h1
          exact ⟨_, _, natW_at hv h1, natH_at hv h1, nodeOk_iff.2 ⟨hv, _, rfl, h1⟩, h2.1, h2.2, by rw [← hF]⟩))
        have SN := Lib.hid (fun t (ht : t < (kidL zs m1 a).length) => sum_take (f := F) (l := kidL zs m1 a) ht)
        have hg := ((vtB_iff.1 hv).2 a ha).1.2.2.2.2.1
        rw [hF, hnz] at NT
        obtain ⟨P, hP⟩ : ∃ P, zs.getD (a * 9 + 4) 0 = P := ⟨_, rfl⟩
        obtain ⟨G, hG⟩ : ∃ G, zs.getD (a * 9 + 5) 0 = G := ⟨_, rfl⟩
        obtain ⟨kz, hkz⟩ : ∃ kz, zs.getD (a * 9 + 1) 0 = kz := ⟨_, rfl⟩
        have HKZ := Lib.hid hkz; have HP := Lib.hid hP; have HG := Lib.hid hG
        rw [hP] at pz NT
        rw [hG] at hg NT
        have k0 : (kz == 0) = false := by rw [← hkz]; exact beq_eq_false_iff_ne.2 h0
        obtain ⟨M, hM⟩ : ∃ M, mx 0 ((nz : Int) - 1) = M := ⟨_, rfl⟩
        rw [hM] at NT
        have m0 : 0 ≤ M ∧ M ≤ 16 := by unfold mx at hM; omega
        have p0 : 0 ≤ G * M := Int.mul_nonneg hg.1 m0.1
        have p1 : G * M ≤ 800 := by have := Int.mul_le_mul hg.2 m0.2 m0.1 (by omega : (0 : Int) ≤ 50); omega
        obtain ⟨GM, hGM⟩ : ∃ GM, G * M = GM := ⟨_, rfl⟩
        rw [hGM] at p0 p1 NT
        have GE := Lib.hid hGM
        have pw := Lib.hid (show wrap64 GM = GM from w64s _ (IntWalk.i64_in _ (by omega)))
        have pw2 := Lib.hid (show wrap64 (2 * P + GM) = 2 * P + GM from w64s _ (IntWalk.i64_in _ (by omega)))
        clear hGM
        have hmx := fun (W : World) (ts : Array TypeId) (t : TypeId) => (run_mx Try.prog W ts t 0 ((nz : Int) - 1)).trans (by rw [hM])
        generalize (natL zs m1 a).1 = X at *
        generalize (natL zs m1 a).2 = Y at *
        replace NT := Lib.hid NT
        clear hv h0 hF hnz hP hG hM
        obtain rfl : (2 : Int) = kz := by rw [← hkz]; exact hk.symm
        clear hk hkz
        go_wp2_with fail
        refine (NaturalSize_any B1 m1 d1 zs (a : Int) (by omega) _ I1.out).mono ?_
        rw [WA.out, HA.out, OA.out]
        rintro e w2 ⟨rfl, N2a⟩
        have s2 := N2a.le
        have I1 := Lib.hid (I1.out.new N2a)
        have N2 := Lib.hid (N1.out.trans N2a); clear N2a
        go_wp2_with fail
        refine (SNaturalSize_any B1 m1 d1 zs (a : Int) (by omega) _ I1.out).mono ?_
        rw [WA.out, HA.out, OA.out]
        rintro e w3 ⟨rfl, N3a⟩
        have s3 := N3a.le
        have I1 := Lib.hid (I1.out.new N3a)
        have N3 := Lib.hid (N2.out.trans N3a); clear N3a
        have IB := I1
        clear IB
        obtain ⟨b, off, rfl, hb, hc⟩ := I1.out.at_ (by omega)
        have g1 := hc (a * 9 + 1) (by omega)
        rw [HKZ.out, ← Nat.add_assoc] at g1
        clear hc
        go_wp2_with fail
        refine (KidsOf_ans _ m1 d1 zs (a : Int) (by omega) _ I1.out).mono ?_
        rintro e w4 ⟨A4, n4, c4, rfl, l4, r4, N4a⟩
        have s4 := N4a.le
        have I1 := Lib.hid (I1.out.new N4a)
        have N4 := Lib.hid (N3.out.trans N4a); clear N4a
        obtain rfl : nz = n4 := by have := LZ.out; omega
        have R4 := Lib.hid r4; clear l4 r4 g1
        obtain ⟨_, _, e, hb2, hc⟩ := I1.out.at_ (by omega)
        cases e
        have CC := Lib.hid (fun W (hW : New w4 W) => (And.intro ((hW.cells b _ hb2).trans (hc (a * 9 + 1) (by omega))) (And.intro ((hW.cells b _ hb2).trans (hc (a * 9 + 4) (by omega))) ((hW.cells b _ hb2).trans (hc (a * 9 + 5) (by omega))))))
        rw [HKZ.out, HP.out, HG.out, ← Nat.add_assoc, ← Nat.add_assoc, ← Nat.add_assoc] at CC
        obtain ⟨g1, g4, g5⟩ := CC.out _ (New.refl _)
        have NN := Lib.hid N4.out
        clear hc
        go_wp2
        go_quiet (fail)
        go_wp2
        go_loopw [12, 13] (fun s i wr => ∃ (j : Nat) (z : Int), j ≤ nz ∧ i = .int .i64 j ∧ s = .int .i64 z ∧ Hid (z = 2 * P + GM + (((kidL zs m1 a).take j).map F).sum) ∧ (0 ≤ z ∧ z ≤ 2000 + 10000 * j) ∧ Hid (New w4 wr)) (fun _ i _ => nz - (intOf i).toNat)
        case atStart => exact ⟨0, 2 * P + GM, Nat.zero_le _, rfl, by rw [GE.out, pw.out, pw2.out], Lib.hid (by simp), by omega, Lib.hid ((New.refl _).drewN _)⟩
        case round =>
          obtain ⟨j, z, hj, rfl, rfl, HZ, hz, HW⟩ := hrel
          have j0 : (0 : Int) ≤ (j : Int) := by omega
          have I2 := Lib.hid (I1.out.new HW.out)
          clear g1 g4 g5 hmx
          by_cases hlt : j < nz
          · obtain ⟨b', off', rfl, hb', hc'⟩ := (R4.out.ints LZ.out).at_ (by omega)
            have g1 := (HW.out.cells b' _ hb').trans (hc' j hlt)
            rw [KE.out, kid_at] at g1
            have j1 : (j : Int) < (nz : Int) := by omega
            obtain ⟨U, V, nk1, nk2, nk3, ub, vb, hU⟩ := NK.out j (by rw [HNZ.out]; exact hlt)
            have HS := Lib.hid (show z + U = 2 * P + GM + (((kidL zs m1 a).take (j + 1)).map F).sum by rw [SN.out j (by rw [HNZ.out]; exact hlt), hU, HZ.out]; omega)
            have NKj := Lib.hid (And.intro nk1 (And.intro nk2 nk3))
            clear hc' nk1 nk2 nk3 hU
            generalize (kidL zs m1 a).getD j 0 = u at *
            go_wp2_with fail
            refine (NaturalSize_any _ m1 d1 zs (u : Int) (by omega) _ I2.out).mono ?_
            rw [NKj.out.1, NKj.out.2.1, NKj.out.2.2]
            rintro e wc ⟨rfl, Nc⟩
            replace Nc := Lib.hid (HW.out.trans Nc)
            obtain ⟨g2, _, _⟩ := CC.out wc Nc.out
            go_wp2
            go_roundw
            case rel => exact ⟨j + 1, _, by omega, by go_num, rfl, HS, by omega, Nc⟩
            case measure => simp [intOf]; omega
          · obtain rfl : nz = j := by omega
            have ez := HZ.out
            rw [List.take_of_length_le (by rw [HNZ.out]; exact Nat.le_refl _), ← NT.out] at ez
            subst ez
            obtain ⟨g2, _, _⟩ := CC.out _ HW.out
            go_wp2
            go_ret
            exact ⟨rfl, NN.out.trans HW.out⟩
      · have NT := nat_col hv ha h0 hk
        have KE := kidsA_at hv ha
        have k8 := kids_le (a := a) hv
        obtain ⟨nz, hnz⟩ : ∃ nz, (kidL zs m1 a).length = nz := ⟨_, rfl⟩
        rw [hnz] at k8
        have LZ : Hid ((kidsA m1 zs (a : Int)).length = nz) := Lib.hid (by rw [KE, List.length_map]; exact hnz)
        have KE := Lib.hid KE; have HNZ := Lib.hid hnz
        have nzi : (0 : Int) ≤ (nz : Int) := by omega
        have nz8 : (nz : Int) ≤ 8 := by omega
        obtain ⟨F, hF⟩ : ∃ F : Nat → Int, (fun x => (natL zs m1 x).2) = F := ⟨_, rfl⟩
        have NK := Lib.hid (fun t (ht : t < (kidL zs m1 a).length) => (show ∃ U V : Int, natW m1 zs (((kidL zs m1 a).getD t 0 : Nat) : Int) = U ∧ natH m1 zs (((kidL zs m1 a).getD t 0 : Nat) : Int) = V ∧ nodeOk m1 zs (((kidL zs m1 a).getD t 0 : Nat) : Int) = true ∧ (0 ≤ U ∧ U ≤ 10000) ∧ (0 ≤ V ∧ V ≤ 10000) ∧ F ((kidL zs m1 a).getD t 0) = V by
          have h1 := (kid_mem.1 (kid_get ht)).1
          have h2 := nat_sm hv h1
          exact ⟨_, _, natW_at hv h1, natH_at hv h1, nodeOk_iff.2 ⟨hv, _, rfl, h1⟩, h2.1, h2.2, by rw [← hF]⟩))
        have SN := Lib.hid (fun t (ht : t < (kidL zs m1 a).length) => sum_take (f := F) (l := kidL zs m1 a) ht)
        have hg := ((vtB_iff.1 hv).2 a ha).1.2.2.2.2.1
        rw [hF, hnz] at NT
        obtain ⟨P, hP⟩ : ∃ P, zs.getD (a * 9 + 4) 0 = P := ⟨_, rfl⟩
        obtain ⟨G, hG⟩ : ∃ G, zs.getD (a * 9 + 5) 0 = G := ⟨_, rfl⟩
        obtain ⟨kz, hkz⟩ : ∃ kz, zs.getD (a * 9 + 1) 0 = kz := ⟨_, rfl⟩
        have HKZ := Lib.hid hkz; have HP := Lib.hid hP; have HG := Lib.hid hG
        rw [hP] at pz NT
        rw [hG] at hg NT
        have k0 : (kz == 0) = false := by rw [← hkz]; exact beq_eq_false_iff_ne.2 h0
        obtain ⟨M, hM⟩ : ∃ M, mx 0 ((nz : Int) - 1) = M := ⟨_, rfl⟩
        rw [hM] at NT
        have m0 : 0 ≤ M ∧ M ≤ 16 := by unfold mx at hM; omega
        have p0 : 0 ≤ G * M := Int.mul_nonneg hg.1 m0.1
        have p1 : G * M ≤ 800 := by have := Int.mul_le_mul hg.2 m0.2 m0.1 (by omega : (0 : Int) ≤ 50); omega
        obtain ⟨GM, hGM⟩ : ∃ GM, G * M = GM := ⟨_, rfl⟩
        rw [hGM] at p0 p1 NT
        have GE := Lib.hid hGM
        have pw := Lib.hid (show wrap64 GM = GM from w64s _ (IntWalk.i64_in _ (by omega)))
        have pw2 := Lib.hid (show wrap64 (2 * P + GM) = 2 * P + GM from w64s _ (IntWalk.i64_in _ (by omega)))
        clear hGM
        have hmx := fun (W : World) (ts : Array TypeId) (t : TypeId) => (run_mx Try.prog W ts t 0 ((nz : Int) - 1)).trans (by rw [hM])
        generalize (natL zs m1 a).1 = X at *
        generalize (natL zs m1 a).2 = Y at *
        replace NT := Lib.hid NT
        clear hv h0 hF hnz hP hG hM
        have k2 : (kz == 2) = false := by rw [← hkz]; exact beq_eq_false_iff_ne.2 hk
        have k3 : (kz != 2) = true := by rw [bne, k2]; rfl
        clear hk hkz
        go_wp2_with fail
        refine (NaturalSize_any B1 m1 d1 zs (a : Int) (by omega) _ I1.out).mono ?_
        rw [WA.out, HA.out, OA.out]
        rintro e w2 ⟨rfl, N2a⟩
        have s2 := N2a.le
        have I1 := Lib.hid (I1.out.new N2a)
        have N2 := Lib.hid (N1.out.trans N2a); clear N2a
        go_wp2_with fail
        refine (SNaturalSize_any B1 m1 d1 zs (a : Int) (by omega) _ I1.out).mono ?_
        rw [WA.out, HA.out, OA.out]
        rintro e w3 ⟨rfl, N3a⟩
        have s3 := N3a.le
        have I1 := Lib.hid (I1.out.new N3a)
        have N3 := Lib.hid (N2.out.trans N3a); clear N3a
        have IB := I1
        clear IB
        obtain ⟨b, off, rfl, hb, hc⟩ := I1.out.at_ (by omega)
        have g1 := hc (a * 9 + 1) (by omega)
        rw [HKZ.out, ← Nat.add_assoc] at g1
        clear hc
        go_wp2_with fail
        refine (KidsOf_ans _ m1 d1 zs (a : Int) (by omega) _ I1.out).mono ?_
        rintro e w4 ⟨A4, n4, c4, rfl, l4, r4, N4a⟩
        have s4 := N4a.le
        have I1 := Lib.hid (I1.out.new N4a)
        have N4 := Lib.hid (N3.out.trans N4a); clear N4a
        obtain rfl : nz = n4 := by have := LZ.out; omega
        have R4 := Lib.hid r4; clear l4 r4 g1
        obtain ⟨_, _, e, hb2, hc⟩ := I1.out.at_ (by omega)
        cases e
        have CC := Lib.hid (fun W (hW : New w4 W) => (And.intro ((hW.cells b _ hb2).trans (hc (a * 9 + 1) (by omega))) (And.intro ((hW.cells b _ hb2).trans (hc (a * 9 + 4) (by omega))) ((hW.cells b _ hb2).trans (hc (a * 9 + 5) (by omega))))))
        rw [HKZ.out, HP.out, HG.out, ← Nat.add_assoc, ← Nat.add_assoc, ← Nat.add_assoc] at CC
        obtain ⟨g1, g4, g5⟩ := CC.out _ (New.refl _)
        have NN := Lib.hid N4.out
        clear hc
        go_wp2
        go_quiet (fail)
        go_wp2
        go_loopw [12, 13] (fun s i wr => ∃ (j : Nat) (z : Int), j ≤ nz ∧ i = .int .i64 j ∧ s = .int .i64 z ∧ Hid (z = 2 * P + GM + (((kidL zs m1 a).take j).map F).sum) ∧ (0 ≤ z ∧ z ≤ 2000 + 10000 * j) ∧ Hid (New w4 wr)) (fun _ i _ => nz - (intOf i).toNat)
        case atStart => exact ⟨0, 2 * P + GM, Nat.zero_le _, rfl, by rw [GE.out, pw.out, pw2.out], Lib.hid (by simp), by omega, Lib.hid ((New.refl _).drewN _)⟩
        case round =>
          obtain ⟨j, z, hj, rfl, rfl, HZ, hz, HW⟩ := hrel
          have j0 : (0 : Int) ≤ (j : Int) := by omega
          have I2 := Lib.hid (I1.out.new HW.out)
          clear g1 g4 g5 hmx
          by_cases hlt : j < nz
          · obtain ⟨b', off', rfl, hb', hc'⟩ := (R4.out.ints LZ.out).at_ (by omega)
            have g1 := (HW.out.cells b' _ hb').trans (hc' j hlt)
            rw [KE.out, kid_at] at g1
            have j1 : (j : Int) < (nz : Int) := by omega
            obtain ⟨U, V, nk1, nk2, nk3, ub, vb, hU⟩ := NK.out j (by rw [HNZ.out]; exact hlt)
            have HS := Lib.hid (show z + V = 2 * P + GM + (((kidL zs m1 a).take (j + 1)).map F).sum by rw [SN.out j (by rw [HNZ.out]; exact hlt), hU, HZ.out]; omega)
            have NKj := Lib.hid (And.intro nk1 (And.intro nk2 nk3))
            clear hc' nk1 nk2 nk3 hU
            generalize (kidL zs m1 a).getD j 0 = u at *
            go_wp2_with fail
            refine (NaturalSize_any _ m1 d1 zs (u : Int) (by omega) _ I2.out).mono ?_
            rw [NKj.out.1, NKj.out.2.1, NKj.out.2.2]
            rintro e wc ⟨rfl, Nc⟩
            replace Nc := Lib.hid (HW.out.trans Nc)
            obtain ⟨g2, _, _⟩ := CC.out wc Nc.out
            go_wp2
            go_roundw
            case rel => exact ⟨j + 1, _, by omega, by go_num, rfl, HS, by omega, Nc⟩
            case measure => simp [intOf]; omega
          · obtain rfl : nz = j := by omega
            have ez := HZ.out
            rw [List.take_of_length_le (by rw [HNZ.out]; exact Nat.le_refl _), ← NT.out] at ez
            subst ez
            obtain ⟨g2, _, _⟩ := CC.out _ HW.out
            go_wp2
            go_ret
            exact ⟨rfl, NN.out.trans HW.out⟩
  · have hok' : nodeOk m1 zs x = false := by simpa using hok
    clear hok
    have WZ := Lib.hid (natW_no hok'); have HZ := Lib.hid (natH_no hok'); have OZ := Lib.hid hok'; clear hok'
    go_wp2_with fail
    refine (NaturalSize_any B1 m1 d1 zs x (by omega) _ I1.out).mono ?_
    rw [WZ.out, HZ.out, OZ.out]
    rintro e w2 ⟨rfl, N2a⟩
    have s2 := N2a.le
    have I1 := Lib.hid (I1.out.new N2a)
    have N2 := Lib.hid (N1.out.trans N2a); clear N2a
    go_wp2_with fail
    refine (SNaturalSize_any B1 m1 d1 zs x (by omega) _ I1.out).mono ?_
    rw [WZ.out, HZ.out, OZ.out]
    rintro e w3 ⟨rfl, N3a⟩
    have s3 := N3a.le
    have I1 := Lib.hid (I1.out.new N3a)
    have N3 := Lib.hid (N2.out.trans N3a); clear N3a
    go_wp2
    go_ret
    exact ⟨rfl, N3.out⟩
end Go.Proofs.Ytecoicnpileegaa
