/- The law FnTrackSizes, walked: the tracks and the gaps fill the space, and fixed tracks keep their sizes. Condition: the code can be read. -/
import Derived.Test.YtcoddhlfhmelkaaDrawTk
import Derived.Test.YtcoddhlfhmelkaaTrkP
import Derived.Test.YtcoddhlfhmelkaaTrkI
import Derived.Test.YtcoddhlfhmelkaaTrkS
import Derived.Test.YtcoddhlfhmelkaaSpnM
namespace Go.Proofs.Ytcoddhlfhmelkaa
open Go.RowKit

set_option maxRecDepth 100000 in
set_option maxHeartbeats 4000000 in
theorem lawTrackSizes (A : Option Addr) (n c : Nat) (hn : n ≤ maxLen) (hnc : n ≤ c) (w : World) (hb : Bytes w A n) :
    Calls Try.prog 8 #[.slice A n c] w fun e w' => e = .returned (.bool true) ∧ New w w' := by
  have HB := Lib.hid hb; have HM := Lib.hid hn
  clear hb
  unfold maxLen at hn
  by_cases hbig : 1048576 < n
  · go_enter Try.func8, Try.ntmps8
    go_wp2
    go_ret
    exact ⟨rfl, by (repeat (first | exact New.refl _ | assumption | refine New.alloc ?_ _ | refine New.drew ?_ | refine New.drewN ?_ _ | refine New.setCell ?_ (by first | omega | (simp; omega) | (simp; done)) _ | refine New.trans ?_ (by assumption)))⟩
  have hm : (n : Int) ≤ 1048576 := by omega
  have hm0 : (0 : Int) ≤ (n : Int) := by omega
  go_enter Try.func8, Try.ntmps8
  go_wp2_with fail
  refine (DrawTrackSizes_any A n c HM.out hnc _ HB.out).mono ?_
  rintro e w1 ⟨B1, m1, d1, ys, sp, gp, rfl, I1, dc, l1, T1, sb, gb, N1a⟩
  have s1 := N1a.le
  have N1 := Lib.hid ((New.refl w).trans N1a); clear N1a
  replace I1 := Lib.hid I1
  have LY := Lib.hid I1.out.len
  have y0 : (0 : Int) ≤ (m1 : Int) := by omega
  have y1 : (m1 : Int) ≤ 9 := by omega
  clear T1 dc
  by_cases hz : tsA m1 ys sp gp = []
  · have HZ := Lib.hid hz
    clear hz
    go_wp2_with fail
    refine (TrackSizes_ans B1 m1 d1 ys sp gp (by omega) _ I1.out).mono ?_
    rintro e w2 ⟨A2, n2, c2, rfl, l2, r2, N2a⟩
    have s2 := N2a.le
    have I1 := Lib.hid (I1.out.new N2a)
    have N2 := Lib.hid (N1.out.trans N2a); clear N2a
    rw [HZ.out] at l2 r2
    obtain rfl : 0 = n2 := by simpa using l2
    have R2 := Lib.hid r2; clear l2 r2
    go_wp2_with fail
    refine (STrackSizes_ans B1 m1 d1 ys sp gp (by omega) _ I1.out).mono ?_
    rintro e w3 ⟨A3, n3, c3, rfl, l3, r3, N3a⟩
    have s3 := N3a.le
    have I1 := Lib.hid (I1.out.new N3a)
    have R2 := Lib.hid (R2.out.new N3a)
    have N3 := Lib.hid (N2.out.trans N3a); clear N3a
    rw [HZ.out] at l3 r3
    obtain rfl : 0 = n3 := by simpa using l3
    have R3 := Lib.hid r3; clear l3 r3
    go_wp2_with fail
    refine (equalInts_any _ _ 0 0 _ _ [] [] (by omega) (by omega) _ (R2.out.ints rfl) (R3.out.ints rfl)).mono ?_
    (rw [decide_eq_true rfl]; rintro e w4 ⟨rfl, N4a⟩)
    have s4 := N4a.le
    have I1 := Lib.hid (I1.out.new N4a)
    have R2 := Lib.hid (R2.out.new N4a)
    have R3 := Lib.hid (R3.out.new N4a)
    have N4 := Lib.hid (N3.out.trans N4a); clear N4a
    go_wp2_with fail
    refine (STrackSizes_ans B1 m1 d1 ys sp gp (by omega) _ I1.out).mono ?_
    rintro e w5 ⟨A5, n5, c5, rfl, l5, r5, N5a⟩
    have s5 := N5a.le
    have I1 := Lib.hid (I1.out.new N5a)
    have R2 := Lib.hid (R2.out.new N5a)
    have R3 := Lib.hid (R3.out.new N5a)
    have N5 := Lib.hid (N4.out.trans N5a); clear N5a
    rw [HZ.out] at l5 r5
    obtain rfl : 0 = n5 := by simpa using l5
    have R5 := Lib.hid r5; clear l5 r5
    go_wp2_with fail
    refine (equalInts_any _ _ 0 0 _ _ [] [] (by omega) (by omega) _ (R2.out.ints rfl) (R5.out.ints rfl)).mono ?_
    (rw [decide_eq_true rfl]; rintro e w6 ⟨rfl, N6a⟩)
    have s6 := N6a.le
    have I1 := Lib.hid (I1.out.new N6a)
    have R2 := Lib.hid (R2.out.new N6a)
    have R3 := Lib.hid (R3.out.new N6a)
    have R5 := Lib.hid (R5.out.new N6a)
    have N6 := Lib.hid (N5.out.trans N6a); clear N6a
    go_wp2
    go_ret
    exact ⟨rfl, N6.out⟩
  · have zp : 0 < (tsA m1 ys sp gp).length := List.length_pos_iff.2 hz
    have zc := tsA_len m1 ys sp gp
    obtain ⟨nz, LZ⟩ : ∃ nz, Hid ((tsA m1 ys sp gp).length = nz) := ⟨_, Lib.hid rfl⟩
    have z1 : 1 ≤ nz := by have := LZ.out; omega
    have z8 : nz ≤ 1048576 := by have := LZ.out; omega
    have zi : (1 : Int) ≤ (nz : Int) := by omega
    have zj : (nz : Int) ≤ 1048576 := by omega
    have zb : ((nz : Int) == 0) = false := by simp; omega
    have NE := Lib.hid hz
    clear hz zp zc
    go_wp2_with fail
    refine (TrackSizes_ans B1 m1 d1 ys sp gp (by omega) _ I1.out).mono ?_
    rintro e w2 ⟨A2, n2, c2, rfl, l2, r2, N2a⟩
    have s2 := N2a.le
    have I1 := Lib.hid (I1.out.new N2a)
    have N2 := Lib.hid (N1.out.trans N2a); clear N2a
    obtain rfl : nz = n2 := by have := LZ.out; omega
    have R2 := Lib.hid r2; clear l2 r2
    go_wp2_with fail
    refine (STrackSizes_ans B1 m1 d1 ys sp gp (by omega) _ I1.out).mono ?_
    rintro e w3 ⟨A3, n3, c3, rfl, l3, r3, N3a⟩
    have s3 := N3a.le
    have I1 := Lib.hid (I1.out.new N3a)
    have R2 := Lib.hid (R2.out.new N3a)
    have N3 := Lib.hid (N2.out.trans N3a); clear N3a
    obtain rfl : nz = n3 := by have := LZ.out; omega
    have R3 := Lib.hid r3; clear l3 r3
    go_wp2_with fail
    refine (equalInts_any _ _ nz nz _ _ _ _ (by omega) (by omega) _ (R2.out.ints LZ.out) (R3.out.ints LZ.out)).mono ?_
    (rw [decide_eq_true rfl]; rintro e w4 ⟨rfl, N4a⟩)
    have s4 := N4a.le
    have I1 := Lib.hid (I1.out.new N4a)
    have R2 := Lib.hid (R2.out.new N4a)
    have R3 := Lib.hid (R3.out.new N4a)
    have N4 := Lib.hid (N3.out.trans N4a); clear N4a
    have hok : tsOk m1 ys sp gp = true := by
      have h := NE.out
      unfold tsA at h
      by_cases hk : tsOk m1 ys sp gp = true
      · exact hk
      · rw [if_neg hk] at h; exact absurd rfl h
    have he : tsA m1 ys sp gp = tsL m1 ys sp gp := by unfold tsA; rw [if_pos hok]
    obtain rfl : nz = m1 := by have h1 := LZ.out; rw [he, tsL_len] at h1; omega
    obtain ⟨hv1, hs, hg⟩ := tsOk_iff.1 hok
    obtain ⟨hn8, hall⟩ := trsB_iff.1 hv1
    have OKV := Lib.hid hok
    obtain ⟨b, off, rfl, hb, hc⟩ := I1.out.at_ (by omega)
    have IR := Lib.hid (fun W (hW : New w4 W) => (R2.out.new hW).ints LZ.out)
    obtain ⟨b', off', e', hb', hc'⟩ := (R2.out.ints LZ.out).at_ (by omega)
    subst e'
    have HC := Lib.hid hc; have HC' := Lib.hid hc'
    have NN := Lib.hid N4.out
    have BD := Lib.hid (fun i (hi : i < nz) => okTr_iff.1 (hall i hi))
    have AT := Lib.hid (fun i (hi : i < nz) (hp : ys.getD (i * 2 + 1) 0 = 0) => (show (tsA nz ys sp gp).getD i 0 = ys.getD (i * 2) 0 by rw [he]; exact tsL_fixed OKV.out hi hp))
    have SN := Lib.hid (fun i (hi : i < nz) => (show ((szL nz ys).take (i + 1)).sum = ((szL nz ys).take i).sum + ys.getD (i * 2) 0 by rw [sum_snoc (by rw [szL_len]; exact hi), szL_at hi]))
    have SB := Lib.hid (fun i (hi : i ≤ nz) => (show 0 ≤ ((szL nz ys).take i).sum ∧ ((szL nz ys).take i).sum ≤ 80000 by
      have m : ∀ z ∈ (szL nz ys).take i, 0 ≤ z ∧ z ≤ 10000 := fun z hz => szL_mem hall z (List.mem_of_mem_take hz)
      have a := sum_nonneg (xs := (szL nz ys).take i) fun z hz => (m z hz).1
      have b := sumL_le (xs := (szL nz ys).take i) (M := 10000) fun z hz => (m z hz).2
      have l : (((szL nz ys).take i).length : Int) ≤ 8 := by rw [List.length_take, szL_len]; omega
      omega))
    have SE : Hid (((szL nz ys).take nz).sum = (szL nz ys).sum) := Lib.hid (by rw [List.take_of_length_le (by rw [szL_len]; exact Nat.le_refl _)])
    have gg := gapp_bd (g := gp) (n := (nz : Int) - 1) hg (by omega)
    obtain ⟨gg0, gg1⟩ := gg
    have TS1 := Lib.hid (fun (h : ∃ j, j < nz ∧ 0 < ys.getD (j * 2 + 1) 0) => (show (tsA nz ys sp gp).sum + gp * ((nz : Int) - 1) = mx sp (gp * ((nz : Int) - 1) + (szL nz ys).sum) by obtain ⟨j, hj, hp⟩ := h; rw [he]; exact tsL_some OKV.out hj hp))
    have TS0 := Lib.hid (fun (h : ¬ ∃ j, j < nz ∧ 0 < ys.getD (j * 2 + 1) 0) => (show (tsA nz ys sp gp).sum = (szL nz ys).sum by
      rw [he]
      exact tsL_none (fun j hj => by
        have h1 := (BD.out j hj).2.1
        have h2 : ¬ 0 < ys.getD (j * 2 + 1) 0 := fun h3 => h ⟨j, hj, h3⟩
        omega)))
    have SM : Hid (Sml (tsA nz ys sp gp)) := Lib.hid (fun z hz => by
      obtain ⟨k, hk, rfl⟩ := List.getElem_of_mem hz
      have := tsA_bd nz ys sp gp k
      rw [show (tsA nz ys sp gp).getD k 0 = (tsA nz ys sp gp)[k] by simp [hk]] at this
      omega)
    have TB : Hid (0 ≤ (tsA nz ys sp gp).sum ∧ (tsA nz ys sp gp).sum ≤ 2000000) := Lib.hid (by
      have := sum_bd2 (tsA_bd nz ys sp gp) nz
      rw [List.take_of_length_le (by rw [LZ.out]; exact Nat.le_refl _)] at this
      omega)
    have hmx := run_mx Try.prog
    have siw : IntKind.i64.wrap ((nz : Int) - 1) = (nz : Int) - 1 := IntWalk.i64_in _ (by omega)
    clear hok he hv1 hall hc hc'
    go_wp2
    go_loopw [7, 8, 9] (fun f sv i wr => ∃ (j : Nat) (bv : Bool), j ≤ nz ∧ i = .int .i64 j ∧ sv = .bool bv ∧ Hid (bv = true ↔ ∃ t, t < j ∧ 0 < ys.getD (t * 2 + 1) 0) ∧ f = .int .i64 (gp * ((nz : Int) - 1) + ((szL nz ys).take j).sum) ∧ ∃ q, wr = w4.drewN q) (fun _ _ i _ => nz - (intOf i).toNat)
    case atStart => exact ⟨0, false, Nat.zero_le _, rfl, rfl, Lib.hid (by simp), by simp, 0, rfl⟩
    case round =>
      obtain ⟨j, bv, hj, rfl, rfl, HBV, rfl, q, rfl⟩ := hrel
      have j0 : (0 : Int) ≤ (j : Int) := by omega
      have sbj := SB.out j hj
      obtain ⟨sb0, sb1⟩ := sbj
      by_cases hlt : j < nz
      · have g1 : w4.cell? ⟨b', off' + j, none⟩ = some (.int .i64 ((tsA nz ys sp gp).getD j 0)) := HC'.out j hlt
        have g2 : w4.cell? ⟨b, off + j * 2, none⟩ = some (.int .i64 (ys.getD (j * 2) 0)) := HC.out (j * 2) (by omega)
        have g3 : w4.cell? ⟨b, off + j * 2 + 1, none⟩ = some (.int .i64 (ys.getD (j * 2 + 1) 0)) := HC.out (j * 2 + 1) (by omega)
        have at1 := AT.out j hlt
        have SNj := Lib.hid (SN.out j hlt)
        obtain ⟨⟨x0, x1⟩, ⟨p0, p1⟩, _⟩ := BD.out j hlt
        have i1 : (j : Int) < (nz : Int) := by omega
        have HB1 : Hid (0 < ys.getD (j * 2 + 1) 0 → ∃ t, t < j + 1 ∧ 0 < ys.getD (t * 2 + 1) 0) := Lib.hid (fun h => ⟨j, by omega, h⟩)
        have HB2 : Hid (bv = true → ∃ t, t < j + 1 ∧ 0 < ys.getD (t * 2 + 1) 0) := Lib.hid (fun h => by obtain ⟨t, h1, h2⟩ := HBV.out.1 h; exact ⟨t, by omega, h2⟩)
        have HB3 : Hid (bv = false → ¬ 0 < ys.getD (j * 2 + 1) 0 → ¬ ∃ t, t < j + 1 ∧ 0 < ys.getD (t * 2 + 1) 0) := Lib.hid (fun h h2 => by
          rintro ⟨t, h3, h4⟩
          by_cases e : t = j
          · exact h2 (e ▸ h4)
          · rw [HBV.out.2 ⟨t, by omega, h4⟩] at h; cases h)
        generalize hE : (∃ t, t < j + 1 ∧ 0 < ys.getD (t * 2 + 1) 0) = E at HB1 HB2 HB3
        have HE := Lib.hid hE
        clear hE
        generalize (tsA nz ys sp gp).getD j 0 = o at *
        generalize ys.getD (j * 2) 0 = x at *
        generalize ys.getD (j * 2 + 1) 0 = p at *
        generalize ((szL nz ys).take j).sum = S at *
        by_cases hp : 0 < p
        · have hpd : decide (p > 0) = true := decide_eq_true hp
          have hpb : (p == 0) = false := by simp; omega
          have BT := Lib.hid (HB1.out hp)
          clear at1
          cases bv
          all_goals
            go_wp2
            go_quiet (fail)
            go_wp2
            go_roundw
            case rel => exact ⟨j + 1, true, by omega, by go_num, rfl, Lib.hid (by rw [HE.out]; simp [BT.out]), by rw [SNj.out, Int.add_assoc], _, rfl⟩
            case measure => simp [intOf]; omega
        · obtain rfl : p = 0 := by omega
          have hpb : ((0 : Int) == 0) = true := rfl
          obtain rfl : o = x := at1 rfl
          have BN := Lib.hid (fun h => HB3.out h hp)
          have BY := Lib.hid HB2.out
          cases bv
          · go_wp2
            go_quiet (fail)
            go_wp2
            go_roundw
            case rel => exact ⟨j + 1, false, by omega, by go_num, rfl, Lib.hid (by rw [HE.out]; simp [BN.out (by simp)]), by rw [SNj.out, Int.add_assoc], _, rfl⟩
            case measure => simp [intOf]; omega
          · go_wp2
            go_quiet (fail)
            go_wp2
            go_roundw
            case rel => exact ⟨j + 1, true, by omega, by go_num, rfl, Lib.hid (by rw [HE.out]; simp [BY.out (by simp)]), by rw [SNj.out, Int.add_assoc], _, rfl⟩
            case measure => simp [intOf]; omega
      · obtain rfl : nz = j := by omega
        have se := SE.out
        rw [se] at sb0 sb1 ⊢
        obtain ⟨tb0, tb1⟩ := TB.out
        have CS := Lib.hid (fun q => lsum_any _ nz c2 _ (by omega) (w4.drewN q) (IR.out _ ((New.refl w4).drewN q)) SM.out)
        cases bv
        · have t0 := TS0.out (fun h => by have := HBV.out.2 h; cases this)
          rw [t0] at CS tb0 tb1
          generalize (szL nz ys).sum = S at *
          have hq : (S + gp * ((nz : Int) - 1) == gp * ((nz : Int) - 1) + S) = true := by simp; omega
          clear t0 se TS0 TS1
          go_wp2_with (go_at_call 19; refine (CS.out _).mono ?_; rintro e w' ⟨rfl, rfl⟩)
          go_ret
          exact ⟨rfl, NN.out.drewN q⟩
        · have t1 := TS1.out (HBV.out.1 rfl)
          generalize (tsA nz ys sp gp).sum = Z at *
          generalize (szL nz ys).sum = S at *
          have hq : (Z + gp * ((nz : Int) - 1) == mx sp (gp * ((nz : Int) - 1) + S)) = true := by rw [t1]; simp
          clear t1 se TS0 TS1
          go_wp2_with (go_at_call 19; refine (CS.out _).mono ?_; rintro e w' ⟨rfl, rfl⟩)
          go_ret
          exact ⟨rfl, NN.out.drewN q⟩
end Go.Proofs.Ytcoddhlfhmelkaa
