/- The law FnAutoPlaces, walked: each item begins behind the one before it in its row, or in the next row, and ends in the grid. Condition: the code can be read. -/
import Derived.Test.YtnipnemhbelcaaaDrawAu
import Derived.Test.YtnipnemhbelcaaaAutP
import Derived.Test.YtnipnemhbelcaaaLstQ
import Derived.Test.YtnipnemhbelcaaaAutI
import Derived.Test.YtnipnemhbelcaaaAutS
import Derived.BigQuiet
namespace Go.Proofs.Ytnipnemhbelcaaa
open Go.RowKit Go.BigFrame

set_option maxRecDepth 100000 in
set_option maxHeartbeats 4000000 in
theorem lawAutoPlaces (A : Option Addr) (n c : Nat) (hn : n ≤ maxLen) (hnc : n ≤ c) (w : World) (hb : Bytes w A n) :
    Calls Try.prog 6 #[.slice A n c] w fun e w' => e = .returned (.bool true) ∧ New w w' := by
  have HB := Lib.hid hb; have HM := Lib.hid hn
  clear hb
  unfold maxLen at hn
  by_cases hbig : 1048576 < n
  · go_enter Try.func6, Try.ntmps6
    go_wp2
    go_ret
    exact ⟨rfl, by (repeat (first | exact New.refl _ | assumption | refine New.alloc ?_ _ | refine New.drew ?_ | refine New.drewN ?_ _ | refine New.setCell ?_ (by first | omega | (simp; omega) | (simp; done)) _ | refine New.trans ?_ (by assumption)))⟩
  have hm : (n : Int) ≤ 1048576 := by omega
  have hm0 : (0 : Int) ≤ (n : Int) := by omega
  go_enter Try.func6, Try.ntmps6
  go_wp2_with fail
  refine (DrawAutoPlaces_any A n c HM.out hnc _ HB.out).mono ?_
  rintro e w1 ⟨B1, m1, d1, ws, cl, rfl, I1, l14, mc, S1, cb, PB, N1a⟩
  have s1 := N1a.le
  have N1 := Lib.hid ((New.refl w).trans N1a); clear N1a
  replace I1 := Lib.hid I1; replace S1 := Lib.hid S1
  obtain ⟨cb0, cb1⟩ := cb
  have y0 : (0 : Int) ≤ (m1 : Int) := by omega
  have y1 : (m1 : Int) ≤ 14 := by omega
  have LY := Lib.hid I1.out.len
  obtain ⟨L, zs, HZ, hL, FS, SN, C1, C2⟩ : ∃ (L : Nat) (zs : List Int), Hid (zs = apA ws cl) ∧ (L = 0 ∨ (L = m1 ∧ apOk ws cl = true)) ∧ Hid (∀ i, i < L → zs.getD (i * 2) 0 = (plc ws cl i).1) ∧ Hid (∀ i, i < L → zs.getD (i * 2 + 1) 0 = (plc ws cl i).2) ∧
      Hid (∀ W, New w1 W → Calls Try.prog 22 #[.slice B1 m1 d1, .int .i64 cl] W fun e w' => ∃ A2, e = .returned (.slice A2 L L) ∧ Prs W.heap.size w'.heap.size w' A2 L zs ∧ New W w') ∧
      Hid (∀ W, New w1 W → Calls Try.prog 24 #[.slice B1 m1 d1, .int .i64 cl] W fun e w' => ∃ A2 c2, e = .returned (.slice A2 L c2) ∧ Prs W.heap.size w'.heap.size w' A2 L zs ∧ New W w') := by
    obtain ⟨L, hL⟩ := apA_even ws cl
    refine ⟨L, apA ws cl, Lib.hid rfl, ?_, Lib.hid fun i hi => ?_, Lib.hid fun i hi => ?_, Lib.hid fun W hW => (AutoPlaces_anyN B1 m1 d1 ws cl (by omega) W (I1.out.new hW)).mono ?_, Lib.hid fun W hW => (SAutoPlaces_any B1 m1 d1 ws cl (by omega) W (I1.out.new hW)).mono ?_⟩
    · unfold apA at hL
      split at hL
      · next h => rw [pairsL_len, LY.out] at hL; exact .inr ⟨by omega, h⟩
      · simp at hL; exact .inl (by omega)
    · unfold apA at hL ⊢
      split
      · next h => rw [if_pos h, pairsL_len] at hL; exact pairsL_fst _ (by omega)
      · next h => rw [if_neg h] at hL; simp at hL; omega
    · unfold apA at hL ⊢
      split
      · next h => rw [if_pos h, pairsL_len] at hL; exact pairsL_snd _ (by omega)
      · next h => rw [if_neg h] at hL; simp at hL; omega
    · rintro e w2 ⟨A2, n2, rfl, l2, p2, N2⟩
      obtain rfl : L = n2 := by omega
      exact ⟨A2, rfl, p2, N2⟩
    · rintro e w2 ⟨A2, n2, c2, rfl, l2, p2, N2⟩
      obtain rfl : L = n2 := by omega
      exact ⟨A2, c2, rfl, p2, N2⟩
  have L0 : (0 : Int) ≤ (L : Int) := by omega
  have L14 : L ≤ 14 := by omega
  have L14' : (L : Int) ≤ 14 := by omega
  rcases Nat.eq_zero_or_pos L with hz | hz
  · subst hz
    clear hL HZ FS SN L14 L14'
    go_wp2_with fail
    refine (C1.out _ (New.refl _)).mono ?_
    rintro e w2 ⟨A2, rfl, p2, N2a⟩
    have NA := Lib.hid N2a
    have N2 := Lib.hid (N1.out.trans N2a); clear N2a
    have P2 := Lib.hid p2; clear p2
    go_wp2_with fail
    refine (C2.out _ NA.out).mono ?_
    rintro e w3 ⟨A3, c3, rfl, p3, N3a⟩
    have NB := Lib.hid (NA.out.trans N3a)
    have P2 := Lib.hid (P2.out.new N3a)
    have N3 := Lib.hid (N2.out.trans N3a); clear N3a
    have P3 := Lib.hid p3; clear p3
    go_wp2_with fail
    refine (equalPrs_any _ _ _ _ A2 A3 0 0 0 c3 zs (by omega) rfl _ P2.out P3.out).mono ?_
    rintro e w4 ⟨rfl, N4a⟩
    have NC := Lib.hid (NB.out.trans N4a)
    have P2 := Lib.hid (P2.out.new N4a)
    have N4 := Lib.hid (N3.out.trans N4a); clear N4a P3
    go_wp2_with fail
    refine (C2.out _ NC.out).mono ?_
    rintro e w5 ⟨A5, c5, rfl, p5, N5a⟩
    have P2 := Lib.hid (P2.out.new N5a)
    have N5 := Lib.hid (N4.out.trans N5a); clear N5a
    have P5 := Lib.hid p5; clear p5
    go_wp2_with fail
    refine (equalPrs_any _ _ _ _ A2 A5 0 0 0 c5 zs (by omega) rfl _ P2.out P5.out).mono ?_
    rintro e w6 ⟨rfl, N6a⟩
    have N6 := Lib.hid (N5.out.trans N6a); clear N6a
    go_wp2
    go_ret
    exact ⟨rfl, N6.out⟩
  · obtain ⟨hLm, hv⟩ : L = m1 ∧ apOk ws cl = true := by rcases hL with h | h; omega; exact h
    subst hLm
    have NX := Lib.hid (fun i => plc_next ws cl i)
    obtain ⟨⟨c1, c8⟩, l12, hw⟩ := apOk_iff.1 hv
    have PZ := Lib.hid (plc_zero hw (by rw [LY.out]; exact hz))
    have BD : Hid (∀ i, i < L → (0 ≤ (plc ws cl i).1 ∧ (plc ws cl i).1 ≤ 14) ∧ (0 ≤ (plc ws cl i).2 ∧ (plc ws cl i).2 + ws.getD i 0 ≤ cl) ∧ 1 ≤ ws.getD i 0 ∧ ws.getD i 0 ≤ 10) := Lib.hid (fun i hi => by
      have b := plc_bd c1 hw (k := i) (by rw [LY.out]; exact hi)
      have x := at_mem hw (show i < ws.length by rw [LY.out]; exact hi)
      omega)
    have lb : ((L : Int) == 0) = false := by simp; omega
    have lb2 : ((L : Int) != (L : Int)) = false := by simp
    clear hL HZ hv hw l12
    go_wp2_with fail
    refine (C1.out _ (New.refl _)).mono ?_
    rintro e w2 ⟨A2, rfl, p2, N2a⟩
    have NA := Lib.hid N2a
    have N2 := Lib.hid (N1.out.trans N2a); clear N2a
    have P2 := Lib.hid p2; clear p2
    go_wp2_with fail
    refine (C2.out _ NA.out).mono ?_
    rintro e w3 ⟨A3, c3, rfl, p3, N3a⟩
    have NB := Lib.hid (NA.out.trans N3a)
    have P2 := Lib.hid (P2.out.new N3a)
    have N3 := Lib.hid (N2.out.trans N3a); clear N3a
    have P3 := Lib.hid p3; clear p3
    go_wp2_with fail
    refine (equalPrs_any _ _ _ _ A2 A3 L L L c3 zs (by omega) rfl _ P2.out P3.out).mono ?_
    rintro e w4 ⟨rfl, N4a⟩
    have NC := Lib.hid (NB.out.trans N4a)
    have P2 := Lib.hid (P2.out.new N4a)
    have N4 := Lib.hid (N3.out.trans N4a); clear N4a P3
    obtain ⟨g, h, e2, P⟩ := P2.out.2 hz
    subst e2
    have HP := Lib.hid P
    clear P
    go_wp2
    go_loopw [6] (fun i wr => ∃ j : Nat, j ≤ L ∧ i = .int .i64 j ∧ ∃ q, wr = w4.drewN q) (fun i _ => L - (intOf i).toNat)
    case atStart => exact ⟨0, Nat.zero_le _, rfl, 0, rfl⟩
    case round =>
      obtain ⟨j, hj, rfl, q, rfl⟩ := hrel
      have j0 : (0 : Int) ≤ (j : Int) := by omega
      by_cases hlt : j < L
      · obtain ⟨b, off, rfl, hb, hc⟩ := (I1.out.new NC.out).at_ (by omega)
        have j1 : (j : Int) < (L : Int) := by omega
        have c1 := HP.out.c j hlt
        have r10 := (HP.out.r j hlt).c 0 (by simp)
        have r11 := (HP.out.r j hlt).c 1 (by simp)
        have g1 := hc j hlt
        obtain ⟨⟨x0, x1⟩, ⟨q0, q1⟩, u0, u1⟩ := BD.out j hlt
        simp only [List.getD_cons_zero, List.getD_cons_succ, FS.out j hlt, SN.out j hlt] at r10 r11
        cases j with
        | zero =>
          clear hc hb
          simp only [Nat.add_zero] at g1
          rw [show ((0 : Nat) : Int) = (0 : Int) from rfl]
          have hz0 : decide ((0 : Int) > 0) = false := rfl
          generalize h 0 = a1 at *
          generalize (plc ws cl 0).1 = y1 at *
          generalize (plc ws cl 0).2 = y2 at *
          generalize ws.getD 0 0 = u at *
          have hd1 : decide (y2 < 0) = false := decide_eq_false (by omega)
          have hd2 : decide (y2 + u > cl) = false := decide_eq_false (by omega)
          go_wp2
          go_quiet (fail)
          go_wp2
          refine wp_region_quiet_lit (by kernel_rfl) (by kernel_rfl) ?_
          simp only [List.append]
          repeat (go_big_quiet_step (fail))
          refine wpQuiet_nil ?_
          intro _ hw'
          obtain ⟨nq2, hw''⟩ := hw'
          subst hw''
          go_wp2
          go_roundw
          case rel => exact ⟨1, by omega, by go_num, _, rfl⟩
          case measure => simp [intOf]; omega
        | succ i =>
          have c2 := HP.out.c i (by omega)
          have r20 := (HP.out.r i (by omega)).c 0 (by simp)
          have r21 := (HP.out.r i (by omega)).c 1 (by simp)
          have g2 := hc i (by omega)
          have nx := NX.out i
          obtain ⟨⟨x20, x21⟩, ⟨q20, q21⟩, u20, u21⟩ := BD.out i (by omega)
          simp only [List.getD_cons_zero, List.getD_cons_succ, FS.out i (by omega), SN.out i (by omega)] at r20 r21
          generalize h (i + 1) = a1 at *
          generalize h i = a2 at *
          obtain ⟨z, hz'⟩ : ∃ z : Int, ((i + 1 : Nat) : Int) = z := ⟨_, rfl⟩
          rw [hz']
          have i0 : (0 : Int) ≤ (i : Int) := by omega
          have i2 : (i : Int) < (L : Int) := by omega
          have z0 : (0 : Int) ≤ z := by omega
          have i1 : z < (L : Int) := by omega
          have iw : IntKind.i64.wrap (z - 1) = (i : Int) := by rw [IntWalk.i64_in _ (by omega)]; omega
          have tn : z.toNat = i + 1 := by omega
          have ip : decide (z > 0) = true := decide_eq_true (by omega)
          have ip3 : decide (0 < z) = true := decide_eq_true (by omega)
          have ip2 : (0 : Int) < z := by omega
          have iz : Hid (z + 1 = ((i + 1 + 1 : Nat) : Int)) := Lib.hid (by omega)
          clear hz' j0 j1 hj hlt
          clear hc hb
          have e1 : (plc ws cl (i + 1)).1 = (plc ws cl i).1 ∧ (plc ws cl (i + 1)).2 = (plc ws cl i).2 + ws.getD i 0 ∨ (plc ws cl (i + 1)).1 = (plc ws cl i).1 + 1 ∧ (plc ws cl (i + 1)).2 = 0 := by
            rcases nx with e | ⟨e, _⟩
            · rw [e]; exact .inl ⟨rfl, rfl⟩
            · rw [e]; exact .inr ⟨rfl, rfl⟩
          clear nx
          generalize (plc ws cl (i + 1)).1 = z1 at *
          generalize (plc ws cl (i + 1)).2 = z2 at *
          generalize (plc ws cl i).1 = y1 at *
          generalize (plc ws cl i).2 = y2 at *
          generalize ws.getD i 0 = u at *
          generalize ws.getD (i + 1) 0 = u' at *
          have hd1 : decide (z2 < 0) = false := decide_eq_false (by omega)
          have hd2 : decide (z2 + u' > cl) = false := decide_eq_false (by omega)
          rcases e1 with ⟨rfl, rfl⟩ | ⟨rfl, rfl⟩
          · have hq1 : (z1 == z1) = true := by simp
            have hq2 : (y2 + u == y2 + u) = true := by simp
            go_wp2
            go_quiet (fail)
            go_wp2
            refine wp_region_quiet_lit (by kernel_rfl) (by kernel_rfl) ?_
            simp only [List.append]
            repeat (go_big_quiet_step (fail))
            refine wpQuiet_nil ?_
            intro _ hw'
            obtain ⟨nq2, hw''⟩ := hw'
            subst hw''
            go_wp2
            go_roundw
            case rel => exact ⟨i + 1 + 1, by omega, by rw [← iz.out], _, rfl⟩
            case measure => simp [intOf]; omega
          · have hq1 : (y1 + 1 == y1) = false := by simp; omega
            have hq2 : (y1 + 1 == y1 + 1) = true := by simp
            go_wp2
            go_quiet (fail)
            go_wp2
            refine wp_region_quiet_lit (by kernel_rfl) (by kernel_rfl) ?_
            simp only [List.append]
            repeat (go_big_quiet_step (fail))
            refine wpQuiet_nil ?_
            intro _ hw'
            obtain ⟨nq2, hw''⟩ := hw'
            subst hw''
            go_wp2
            go_roundw
            case rel => exact ⟨i + 1 + 1, by omega, by rw [← iz.out], _, rfl⟩
            case measure => simp [intOf]; omega
      · obtain rfl : L = j := by omega
        have c1 := HP.out.c 0 (by omega)
        have r := HP.out.r 0 (by omega)
        simp only [FS.out 0 (by omega), SN.out 0 (by omega), PZ.out] at r
        have R0 := Lib.hid r
        clear r
        have IN := Lib.hid (fun W (hW : New w4 W) => (show Ints W (some ⟨h 0, 0, none⟩) 2 [0, 0] from (R0.out.new hW).ints))
        clear R0
        generalize h 0 = a1 at *
        go_wp2_with (go_at_call 19; refine (equalInts_any _ _ 2 2 _ _ [0, 0] [0, 0] (by omega) (by omega) _ (IN.out _ (by (repeat (first | exact New.refl _ | assumption | refine New.alloc ?_ _ | refine New.drew ?_ | refine New.drewN ?_ _ | refine New.setCell ?_ (by first | omega | (simp; omega) | (simp; done)) _ | refine New.trans ?_ (by assumption))))) (lit2 _ _ _ _)).mono ?_; rw [decide_eq_true rfl]; rintro e w5 ⟨rfl, N5a⟩; have N5 := Lib.hid ((show New w4 _ by (repeat (first | exact New.refl _ | assumption | refine New.alloc ?_ _ | refine New.drew ?_ | refine New.drewN ?_ _ | refine New.setCell ?_ (by first | omega | (simp; omega) | (simp; done)) _ | refine New.trans ?_ (by assumption)))).trans N5a))
        go_ret
        exact ⟨rfl, N4.out.trans N5.out⟩
end Go.Proofs.Ytnipnemhbelcaaa
