/- The law FnRemoveBoxOrder, walked: two boxes beside each other can be removed in both orders. Condition: the code can be read. -/
import Derived.Test.YtnihklilappimaaDrawRm
import Derived.Test.YtnihklilappimaaEdR
import Derived.Test.YtnihklilappimaaRemZ
import Derived.Test.YtnihklilappimaaBoxQ
import Derived.Test.YtnihklilappimaaTreeE
import Derived.Test.YtnihklilappimaaPathP
namespace Go.Proofs.Ytnihklilappimaa
open Go.RowKit

set_option maxRecDepth 100000 in
set_option maxHeartbeats 4000000 in
theorem lawRemoveBoxOrder (A : Option Addr) (n c : Nat) (hn : n ≤ maxLen) (hnc : n ≤ c) (w : World) (hb : Bytes w A n) :
    Calls Try.prog 10 #[.slice A n c] w fun e w' => e = .returned (.bool true) ∧ New w w' := by
  have HB := Lib.hid hb; have HM := Lib.hid hn
  clear hb
  unfold maxLen at hn
  by_cases hbig : 1048576 < n
  · go_enter Try.func10, Try.ntmps10
    go_wp2
    go_ret
    exact ⟨rfl, by (repeat (first | exact New.refl _ | assumption | refine New.alloc ?_ _ | refine New.drew ?_ | refine New.drewN ?_ _ | refine New.setCell ?_ (by first | omega | (simp; omega) | (simp; done)) _ | refine New.trans ?_ (by assumption)))⟩
  have hm : (n : Int) ≤ 1048576 := by omega
  have hm0 : (0 : Int) ≤ (n : Int) := by omega
  go_enter Try.func10, Try.ntmps10
  go_wp2_with fail
  refine (DrawRemoveBox_any A n c HM.out hnc _ HB.out).mono ?_
  rintro e w1 ⟨B1, m1, d1, zs, x, rfl, I1, l1, kd, xb, N1a⟩
  have s1 := N1a.le
  have N1 := Lib.hid ((New.refl w).trans N1a); clear N1a
  replace I1 := Lib.hid I1
  have HL := Lib.hid I1.out.len
  cases hso : remOk m1 zs x
  · have OK := Lib.hid hso
    have LP : Hid ((remA m1 zs x).length = 0 * 9) := Lib.hid (by unfold remA; rw [hso]; rfl)
    clear hso
    go_wp2_with fail
    refine (RemoveBox_ansT B1 m1 d1 zs x (by omega) _ I1.out).mono ?_
    rw [OK.out]
    rintro e w2 ⟨A2, n2, c2, rfl, l2, r2, N2a⟩
    have s2 := N2a.le
    have I1 := Lib.hid (I1.out.new N2a)
    have N2 := Lib.hid (N1.out.trans N2a); clear N2a
    obtain rfl : 0 = n2 := by have := LP.out; omega
    have R2 := Lib.hid r2; clear l2 r2
    go_wp2_with fail
    refine (SRemoveBox_ansT B1 m1 d1 zs x (by omega) kd _ I1.out).mono ?_
    rw [OK.out]
    rintro e w3 ⟨A3, n3, c3, rfl, l3, r3, N3a⟩
    have s3 := N3a.le
    have I1 := Lib.hid (I1.out.new N3a)
    have R2 := Lib.hid (R2.out.new N3a)
    have N3 := Lib.hid (N2.out.trans N3a); clear N3a
    obtain rfl : 0 = n3 := by have := LP.out; omega
    have R3 := Lib.hid r3; clear l3 r3
    go_wp2_with fail
    refine (equalBoxes_same _ _ 0 _ _ _ (by omega) _ (Sts.of_res R2.out LP.out) (Sts.of_res R3.out LP.out)).mono ?_
    rintro e w4 ⟨rfl, N4a⟩
    have s4 := N4a.le
    have I1 := Lib.hid (I1.out.new N4a)
    have R2 := Lib.hid (R2.out.new N4a)
    have R3 := Lib.hid (R3.out.new N4a)
    have N4 := Lib.hid (N3.out.trans N4a); clear N4a
    go_wp2_with fail
    refine (equalBoxes_same _ _ 0 _ _ _ (by omega) _ (Sts.of_res R2.out LP.out) (Sts.of_res R3.out LP.out)).mono ?_
    rintro e w5 ⟨rfl, N5a⟩
    have s5 := N5a.le
    have I1 := Lib.hid (I1.out.new N5a)
    have R2 := Lib.hid (R2.out.new N5a)
    have R3 := Lib.hid (R3.out.new N5a)
    have N5 := Lib.hid (N4.out.trans N5a); clear N5a
    go_wp2
    go_ret
    exact ⟨by first | rfl | simp, N5.out⟩
  · have OK := Lib.hid hso
    have hn2 := hso
    unfold remOk at hn2
    rw [Bool.and_eq_true] at hn2
    obtain ⟨hv, a, rfl, ha⟩ := nodeOk_iff.1 hn2.1
    have h0 : 0 < a := by have := of_decide_eq_true hn2.2; omega
    have m16 := (vtB_iff.1 hv).1
    have eb := en_bd (zs := zs) ha
    obtain ⟨m, hm⟩ : ∃ m, en zs m1 a = a + m := ⟨en zs m1 a - a, by omega⟩
    have hAL : remA m1 zs (a : Int) = remL m1 zs a := by unfold remA; rw [if_pos hso, Int.toNat_natCast]
    have rv := rem_valid hv HL.out ha h0 hm
    obtain ⟨M, hM⟩ : ∃ M, m1 - m = M := ⟨_, rfl⟩
    have LP : Hid ((remA m1 zs (a : Int)).length = M * 9) := Lib.hid (by rw [hAL, remL_len HL.out ha, hm, ← hM]; congr 1; omega)
    have M16 : M ≤ 16 := by omega
    have a0 : (0 : Int) ≤ (a : Int) := by omega
    have a1 : (a : Int) < (m1 : Int) := by omega
    have ap : (0 : Int) < (a : Int) := by omega
    have da1 : decide (m1 ≤ a) = false := decide_eq_false (by omega)
    have da2 : decide ((m1 : Int) ≤ (a : Int)) = false := decide_eq_false (by omega)
    have da3 : decide ((a : Int) < 0) = false := decide_eq_false (by omega)
    rw [hM] at rv
    clear hso hn2 xb
    obtain ⟨p, ep, hp⟩ := par_bd hv ha h0
    have RV := Lib.hid rv
    have CT : Hid (cntA m1 zs (a : Int) = (m : Int)) := Lib.hid (by rw [cntA_at hv ha, hm]; omega)
    have KE := Lib.hid (kidsA_at hv (show p < m1 by omega))
    have KN := Lib.hid (fun t (ht : t < (kidL zs m1 p).length) => kid_next (link_vt hv) (show p < m1 by omega) ht)
    have KM := Lib.hid (fun t (ht : t < (kidL zs m1 p).length) => (kid_mem.1 (kid_get ht)).1)
    have k8 := kids_le (a := p) hv
    -- what the three removals answer, where the box a + m is there
    have TW := Lib.hid (fun (hb : a + m < m1) => (show ∃ k, 0 < k ∧ a + m + k ≤ m1 ∧ remOk m1 zs ((a + m : Nat) : Int) = true ∧ (remA m1 zs ((a + m : Nat) : Int)).length = (m1 - k) * 9 ∧
        remOk M (remA m1 zs (a : Int)) (a : Int) = true ∧ remOk (m1 - k) (remA m1 zs ((a + m : Nat) : Int)) (a : Int) = true ∧
        remA M (remA m1 zs (a : Int)) (a : Int) = remA (m1 - k) (remA m1 zs ((a + m : Nat) : Int)) (a : Int) ∧ (remA M (remA m1 zs (a : Int)) (a : Int)).length = (M - k) * 9 by
      have e2 := en_bd (zs := zs) hb
      obtain ⟨k, hk⟩ : ∃ k, en zs m1 (a + m) = a + m + k := ⟨en zs m1 (a + m) - (a + m), by omega⟩
      have e3 := rem_en1 hv HL.out ha h0 hm hb hk
      have hAB : remA m1 zs ((a + m : Nat) : Int) = remL m1 zs (a + m) := by
        unfold remA remOk
        rw [if_pos (by rw [nodeOk_iff.2 ⟨hv, a + m, rfl, hb⟩]; simp; omega), Int.toNat_natCast]
      have rv2 := rem_valid hv HL.out hb (by omega) hk
      have o1 : remOk M (remL m1 zs a) (a : Int) = true := by unfold remOk; rw [nodeOk_iff.2 ⟨rv, a, rfl, by omega⟩]; simp; omega
      have o2 : remOk (m1 - k) (remL m1 zs (a + m)) (a : Int) = true := by unfold remOk; rw [nodeOk_iff.2 ⟨rv2, a, rfl, by omega⟩]; simp; omega
      have l1 : (remL m1 zs a).length = M * 9 := by rw [remL_len HL.out ha, hm, ← hM]; congr 1; omega
      rw [hAL, hAB]
      refine ⟨k, by omega, by omega, by unfold remOk; rw [nodeOk_iff.2 ⟨hv, a + m, rfl, hb⟩]; simp; omega, ?_, o1, o2, ?_, ?_⟩
      · rw [remL_len HL.out hb, hk]; congr 1; omega
      · unfold remA
        rw [if_pos o1, if_pos o2, Int.toNat_natCast, ← hM]
        exact rem_two hv HL.out ha h0 hm hb hk
      · unfold remA
        rw [if_pos o1, Int.toNat_natCast, remL_len l1 (by omega), ← hM, e3]
        congr 1
        omega))
    have EM : Hid (en zs m1 a = a + m) := Lib.hid hm
    obtain ⟨nz, hnz⟩ : ∃ nz, (kidL zs m1 p).length = nz := ⟨_, rfl⟩
    rw [hnz] at k8 KN KM
    have LZ : Hid ((kidsA m1 zs (p : Int)).length = nz) := Lib.hid (by rw [KE.out, List.length_map]; exact hnz)
    have nz8 : (nz : Int) ≤ 8 := by omega
    have nz0 : (0 : Int) ≤ (nz : Int) := by omega
    have p0 : (0 : Int) ≤ (p : Int) := by omega
    have p1 : p < m1 := by omega
    have mb : (m : Int) ≤ 16 := by omega
    have mb0 : (0 : Int) < (m : Int) := by omega
    have E9 := Lib.hid (show zs.getD (a * 9) 0 = (p : Int) from ep)
    clear hv hM hm hAL rv ep hp hnz eb
    go_wp2_with fail
    refine (RemoveBox_ansT B1 m1 d1 zs (a : Int) (by omega) _ I1.out).mono ?_
    rw [OK.out]
    rintro e w2 ⟨A2, n2, c2, rfl, l2, r2, N2a⟩
    have s2 := N2a.le
    have I1 := Lib.hid (I1.out.new N2a)
    have N2 := Lib.hid (N1.out.trans N2a); clear N2a
    obtain rfl : M = n2 := by have := LP.out; omega
    have R2 := Lib.hid r2; clear l2 r2
    go_wp2_with fail
    refine (SRemoveBox_ansT B1 m1 d1 zs (a : Int) (by omega) kd _ I1.out).mono ?_
    rw [OK.out]
    rintro e w3 ⟨A3, n3, c3, rfl, l3, r3, N3a⟩
    have s3 := N3a.le
    have I1 := Lib.hid (I1.out.new N3a)
    have R2 := Lib.hid (R2.out.new N3a)
    have N3 := Lib.hid (N2.out.trans N3a); clear N3a
    obtain rfl : M = n3 := by have := LP.out; omega
    have R3 := Lib.hid r3; clear l3 r3
    go_wp2_with fail
    refine (equalBoxes_same _ _ M _ _ _ (by omega) _ (Sts.of_res R2.out LP.out) (Sts.of_res R3.out LP.out)).mono ?_
    rintro e w4 ⟨rfl, N4a⟩
    have s4 := N4a.le
    have I1 := Lib.hid (I1.out.new N4a)
    have R2 := Lib.hid (R2.out.new N4a)
    have R3 := Lib.hid (R3.out.new N4a)
    have N4 := Lib.hid (N3.out.trans N4a); clear N4a
    obtain ⟨b, off, eB, hb, hc⟩ := I1.out.at_ (by omega)
    subst eB
    have g1 := hc (a * 9) (by omega)
    rw [E9.out] at g1
    clear hc hb
    go_wp2_with fail
    refine (KidsOf_ans _ m1 d1 zs (p : Int) (by omega) _ I1.out).mono ?_
    rintro e w5 ⟨A5, n5, c5, rfl, l5, r5, N5a⟩
    have s5 := N5a.le
    have I1 := Lib.hid (I1.out.new N5a)
    have R2 := Lib.hid (R2.out.new N5a)
    have N5 := Lib.hid (N4.out.trans N5a); clear N5a
    obtain rfl : nz = n5 := by have := LZ.out; omega
    have R5 := Lib.hid r5; clear l5 r5 g1
    have ND := Lib.hid (N5.out)
    have RO := Lib.hid (Sts.of_res R2.out LP.out)
    generalize remA m1 zs (a : Int) = T at *
    go_wp2
    go_loopw [10] (fun i wr => wr = w5 ∧ ∃ j : Nat, j ≤ nz ∧ i = .int .i64 j) (fun i _ => nz - (intOf i).toNat)
    case atStart => exact ⟨rfl, 0, Nat.zero_le _, rfl⟩
    case round =>
      obtain ⟨rfl, j, hj, rfl⟩ := hrel
      have j0 : (0 : Int) ≤ (j : Int) := by omega
      by_cases hlt : j + 1 < nz
      · have j1 : (j : Int) + 1 < (nz : Int) := by omega
        have j2 : (j : Int) < (nz : Int) := by omega
        obtain ⟨b', off', rfl, hb', hc'⟩ := (R5.out.ints LZ.out).at_ (by omega)
        have g2 := hc' j (by omega)
        have g3 := hc' (j + 1) hlt
        rw [KE.out, getD_map] at g2 g3
        have kn := KN.out j (by omega)
        rw [if_pos hlt] at kn
        have km := KM.out (j + 1) hlt
        generalize (kidL zs m1 p).getD (j + 1) 0 = v at *
        generalize (kidL zs m1 p).getD j 0 = u at *
        clear hc' hb'
        by_cases hu : u = a
        · subst hu
          have ev : v = u + m := by rw [← kn]; exact EM.out
          clear kn
          obtain ⟨k, k1, k2, o1, o2, o3, o4, o5, o6⟩ := TW.out (by omega)
          rw [← ev] at o1 o2 o4 o5
          have O1 := Lib.hid o1; have O3 := Lib.hid o3; have O4 := Lib.hid o4; have O5 := Lib.hid o5
          obtain ⟨M2, hM2⟩ : ∃ M2, m1 - k = M2 := ⟨_, rfl⟩
          obtain ⟨M3, hM3⟩ : ∃ M3, M - k = M3 := ⟨_, rfl⟩
          rw [hM2] at o2 O4 O5
          rw [hM3] at o6
          have L2 := Lib.hid o2; have L3 := Lib.hid o6
          have L4 : Hid ((remA M2 (remA m1 zs (v : Int)) (u : Int)).length = M3 * 9) := Lib.hid (by rw [← O5.out]; exact o6)
          have M2b : M2 ≤ 16 := by omega
          have M3b : M3 ≤ 16 := by omega
          have vm : (v : Int) - (m : Int) = (u : Int) := by omega
          have v0 : (0 : Int) ≤ (v : Int) := by omega
          have v1 : (v : Int) ≤ 16 := by omega
          clear o1 o2 o3 o4 o5 o6 hM2 hM3 ev km
          go_wp2_with fail
          refine (CountIn_any _ m1 d1 zs (u : Int) (by omega) _ I1.out).mono ?_
          rw [CT.out]
          rintro e wa ⟨rfl, Na⟩
          have IA := Lib.hid (I1.out.new Na); have RA := Lib.hid (RO.out.new Na); replace Na := Lib.hid Na
          clear g2 g3
          go_wp2_with fail
          refine (RemoveBox_ansT _ M _ T (u : Int) (by omega) _ RA.out).mono ?_
          rw [O3.out]
          rintro e wb ⟨Ab, nb, cb, rfl, lb, rb, Nb⟩
          obtain rfl : M3 = nb := by have := L3.out; omega
          have RB := Lib.hid rb; have IB := Lib.hid (IA.out.new Nb); replace Nb := Lib.hid (Na.out.trans Nb)
          clear lb rb
          go_wp2_with fail
          refine (RemoveBox_ansT _ m1 d1 zs (v : Int) (by omega) _ IB.out).mono ?_
          rw [O1.out]
          rintro e wc ⟨Ac, nc, cc, rfl, lc, rc, Nc⟩
          obtain rfl : M2 = nc := by have := L2.out; omega
          have RC := Lib.hid rc; replace RB := Lib.hid (RB.out.new Nc); replace Nc := Lib.hid (Nb.out.trans Nc)
          clear lc rc
          go_wp2_with fail
          refine (RemoveBox_ansT _ M2 _ (remA m1 zs (v : Int)) (u : Int) (by omega) _ (Sts.of_res RC.out L2.out)).mono ?_
          rw [O4.out]
          rintro e wd ⟨Ad, nd, cd, rfl, ld, rd, Nd⟩
          obtain rfl : M3 = nd := by have := L4.out; omega
          have RD := Lib.hid rd; replace RB := Lib.hid (RB.out.new Nd); replace Nd := Lib.hid (Nc.out.trans Nd)
          clear ld rd
          go_wp2_with fail
          refine (equalBoxes_same Ab Ad M3 cb cd _ (by omega) _ (Sts.of_res RB.out L3.out) (by have h := Sts.of_res RD.out L4.out; rw [← O5.out] at h; exact h)).mono ?_
          rintro e we ⟨rfl, Ne⟩
          replace Ne := Lib.hid (Nd.out.trans Ne)
          go_wp2
          go_ret
          exact ⟨by first | rfl | simp, ND.out.trans Ne.out⟩
        · have ub : ((u : Int) != (a : Int)) = true := by simp; omega
          have ub2 : (u == a) = false := by simp; omega
          clear hu kn
          go_wp2
          go_roundw
          case rel => exact ⟨trivial, j + 1, by omega, by go_num⟩
          case measure => simp [intOf]; omega
      · have j1 : (nz : Int) ≤ (j : Int) + 1 := by omega
        go_wp2
        go_ret
        exact ⟨rfl, ND.out⟩
end Go.Proofs.Ytnihklilappimaa
