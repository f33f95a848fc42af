/- The law FnAutoPlacesFull, walked: an item at the beginning of a row does not fit into the row before it. Condition: the code can be read. -/
import Derived.Test.YtlmamglckamjjaaDrawAu
import Derived.Test.YtlmamglckamjjaaAutP
import Derived.Test.YtlmamglckamjjaaLstQ
import Derived.Test.YtlmamglckamjjaaAutI
import Derived.Test.YtlmamglckamjjaaAutS
import Derived.BigQuiet
namespace Go.Proofs.Ytlmamglckamjjaa
open Go.RowKit

set_option maxRecDepth 100000 in
set_option maxHeartbeats 4000000 in
theorem lawAutoPlacesFull (A : Option Addr) (n c : Nat) (hn : n ≤ maxLen) (hnc : n ≤ c) (w : World) (hb : Bytes w A n) :
    Calls Try.prog 3 #[.slice A n c] w fun e w' => e = .returned (.bool true) ∧ New w w' := by
  have HB := Lib.hid hb; have HM := Lib.hid hn
  clear hb
  unfold maxLen at hn
  by_cases hbig : 1048576 < n
  · go_enter Try.func3, Try.ntmps3
    go_wp2
    go_ret
    exact ⟨rfl, by (repeat (first | exact New.refl _ | assumption | refine New.alloc ?_ _ | refine New.drew ?_ | refine New.drewN ?_ _ | refine New.setCell ?_ (by first | omega | (simp; omega) | (simp; done)) _ | refine New.trans ?_ (by assumption)))⟩
  have hm : (n : Int) ≤ 1048576 := by omega
  have hm0 : (0 : Int) ≤ (n : Int) := by omega
  go_enter Try.func3, Try.ntmps3
  go_wp2_with fail
  refine (DrawAutoPlaces_any A n c HM.out hnc _ HB.out).mono ?_
  rintro e w1 ⟨B1, m1, d1, ws, cl, rfl, I1, l14, mc, S1, cb, PB, N1a⟩
  have s1 := N1a.le
  have N1 := Lib.hid ((New.refl w).trans N1a); clear N1a
  replace I1 := Lib.hid I1; replace S1 := Lib.hid S1
  obtain ⟨cb0, cb1⟩ := cb
  have y0 : (0 : Int) ≤ (m1 : Int) := by omega
  have y1 : (m1 : Int) ≤ 14 := by omega
  have LY := Lib.hid I1.out.len
  obtain ⟨L, zs, HZ, hL, FS, SN, C1, C2⟩ : ∃ (L : Nat) (zs : List Int), Hid (zs = apA ws cl) ∧ (L = 0 ∨ (L = m1 ∧ apOk ws cl = true)) ∧ Hid (∀ i, i < L → zs.getD (i * 2) 0 = (plc ws cl i).1) ∧ Hid (∀ i, i < L → zs.getD (i * 2 + 1) 0 = (plc ws cl i).2) ∧
      Hid (∀ W, New w1 W → Calls Try.prog 17 #[.slice B1 m1 d1, .int .i64 cl] W fun e w' => ∃ A2, e = .returned (.slice A2 L L) ∧ Prs W.heap.size w'.heap.size w' A2 L zs ∧ New W w') ∧
      Hid (∀ W, New w1 W → Calls Try.prog 19 #[.slice B1 m1 d1, .int .i64 cl] W fun e w' => ∃ A2 c2, e = .returned (.slice A2 L c2) ∧ Prs W.heap.size w'.heap.size w' A2 L zs ∧ New W w') := by
    obtain ⟨L, hL⟩ := apA_even ws cl
    refine ⟨L, apA ws cl, Lib.hid rfl, ?_, Lib.hid fun i hi => ?_, Lib.hid fun i hi => ?_, Lib.hid fun W hW => (AutoPlaces_anyN B1 m1 d1 ws cl (by omega) W (I1.out.new hW)).mono ?_, Lib.hid fun W hW => (SAutoPlaces_any B1 m1 d1 ws cl (by omega) W (I1.out.new hW)).mono ?_⟩
    · unfold apA at hL
      split at hL
      · next h => rw [pairsL_len, LY.out] at hL; exact .inr ⟨by omega, h⟩
      · simp at hL; exact .inl (by omega)
    · unfold apA at hL ⊢
      split
      · next h => rw [if_pos h, pairsL_len] at hL; exact pairsL_fst _ (by omega)
      · next h => rw [if_neg h] at hL; simp at hL; omega
    · unfold apA at hL ⊢
      split
      · next h => rw [if_pos h, pairsL_len] at hL; exact pairsL_snd _ (by omega)
      · next h => rw [if_neg h] at hL; simp at hL; omega
    · rintro e w2 ⟨A2, n2, rfl, l2, p2, N2⟩
      obtain rfl : L = n2 := by omega
      exact ⟨A2, rfl, p2, N2⟩
    · rintro e w2 ⟨A2, n2, c2, rfl, l2, p2, N2⟩
      obtain rfl : L = n2 := by omega
      exact ⟨A2, c2, rfl, p2, N2⟩
  have L0 : (0 : Int) ≤ (L : Int) := by omega
  have L14 : L ≤ 14 := by omega
  have L14' : (L : Int) ≤ 14 := by omega
  by_cases hLm : L = m1
  · subst hLm
    have NX := Lib.hid (fun i => plc_next ws cl i)
    have BD : Hid (∀ i, i < L → (0 ≤ (plc ws cl i).1 ∧ (plc ws cl i).1 ≤ 14) ∧ (0 ≤ (plc ws cl i).2 ∧ (plc ws cl i).2 ≤ 10) ∧ 1 ≤ ws.getD i 0 ∧ ws.getD i 0 ≤ 10) := Lib.hid (fun i hi => by
      rcases hL with h | ⟨_, h⟩
      · omega
      · obtain ⟨⟨c1, c8⟩, l12, hw⟩ := apOk_iff.1 h
        have b := plc_bd c1 hw (k := i) (by rw [LY.out]; exact hi)
        have x := at_mem hw (show i < ws.length by rw [LY.out]; exact hi)
        omega)
    clear hL HZ
    go_wp2_with fail
    refine (C1.out _ (New.refl _)).mono ?_
    rintro e w2 ⟨A2, rfl, p2, N2a⟩
    have NA := Lib.hid N2a
    have N2 := Lib.hid (N1.out.trans N2a); clear N2a
    have P2 := Lib.hid p2; clear p2
    go_wp2_with fail
    refine (C2.out _ NA.out).mono ?_
    rintro e w3 ⟨A3, c3, rfl, p3, N3a⟩
    have NB := Lib.hid (NA.out.trans N3a)
    have P2 := Lib.hid (P2.out.new N3a)
    have N3 := Lib.hid (N2.out.trans N3a); clear N3a
    have P3 := Lib.hid p3; clear p3
    go_wp2_with fail
    refine (equalPrs_any _ _ _ _ A2 A3 L L L c3 zs (by omega) rfl _ P2.out P3.out).mono ?_
    rintro e w4 ⟨rfl, N4a⟩
    have NC := Lib.hid (NB.out.trans N4a)
    have P2 := Lib.hid (P2.out.new N4a)
    have N4 := Lib.hid (N3.out.trans N4a); clear N4a P3
    go_wp2
    go_loopw [6] (fun i wr => ∃ j : Nat, 1 ≤ j ∧ (j ≤ L ∨ j = 1) ∧ i = .int .i64 j ∧ ∃ q, wr = w4.drewN q) (fun i _ => L - (intOf i).toNat)
    case atStart => exact ⟨1, Nat.le_refl _, .inr rfl, rfl, 0, rfl⟩
    case round =>
      obtain ⟨j, hj1, hj, rfl, q, rfl⟩ := hrel
      by_cases hlt : j < L
      · obtain ⟨i, rfl⟩ : ∃ i, j = i + 1 := ⟨j - 1, by omega⟩
        obtain ⟨g, h, rfl, P⟩ := P2.out.2 (by omega)
        obtain ⟨b, off, rfl, hb, hc⟩ := (I1.out.new NC.out).at_ (by omega)
        have c1 := P.c (i + 1) hlt
        have c2 := P.c i (by omega)
        have r10 := (P.r (i + 1) hlt).c 0 (by simp)
        have r11 := (P.r (i + 1) hlt).c 1 (by simp)
        have r20 := (P.r i (by omega)).c 0 (by simp)
        have r21 := (P.r i (by omega)).c 1 (by simp)
        have g1 := hc (i + 1) hlt
        have g2 := hc i (by omega)
        have nx := NX.out i
        have b1 := BD.out i (by omega)
        have b2 := BD.out (i + 1) hlt
        simp only [List.getD_cons_zero, List.getD_cons_succ, FS.out (i + 1) hlt, SN.out (i + 1) hlt, FS.out i (by omega), SN.out i (by omega)] at r10 r11 r20 r21
        generalize h (i + 1) = a1 at *
        generalize h i = a2 at *
        have i0 : (0 : Int) ≤ (i : Int) := by omega
        have i1 : (i : Int) + 1 < (L : Int) := by omega
        have iw : IntKind.i64.wrap ((i : Int) + 1 - 1) = (i : Int) := by rw [IntWalk.i64_in _ (by omega)]; omega
        have tn : ((i : Int) + 1).toNat = i + 1 := by omega
        clear P hc hb
        rcases nx with e | ⟨e, hgt⟩
        · have e1 : (plc ws cl (i + 1)).1 = (plc ws cl i).1 := by rw [e]
          rw [e1] at r10
          have hd : ((plc ws cl i).1 != (plc ws cl i).1) = false := by simp
          clear e e1 b1 b2
          generalize (plc ws cl i).1 = x1 at *
          generalize (plc ws cl i).2 = x2 at *
          generalize (plc ws cl (i + 1)).2 = x3 at *
          generalize ws.getD i 0 = u1 at *
          generalize ws.getD (i + 1) 0 = u2 at *
          go_wp2
          go_quiet (fail)
          go_wp2
          go_roundw
          case rel => exact ⟨i + 1 + 1, by omega, .inl (by omega), by go_num, _, rfl⟩
          case measure => simp [intOf]; omega
        · have e1 : (plc ws cl (i + 1)).1 = (plc ws cl i).1 + 1 := by rw [e]
          rw [e1] at r10
          obtain ⟨⟨x10, x11⟩, ⟨x20, x21⟩, u10, u11⟩ := b1
          obtain ⟨_, _, u20, u21⟩ := b2
          clear e e1
          generalize (plc ws cl i).1 = x1 at *
          generalize (plc ws cl i).2 = x2 at *
          generalize (plc ws cl (i + 1)).2 = x3 at *
          generalize ws.getD i 0 = u1 at *
          generalize ws.getD (i + 1) 0 = u2 at *
          have hd : (x1 + 1 != x1) = true := by simp; omega
          have hd2 : decide (x2 + u1 + u2 ≤ cl) = false := decide_eq_false (by omega)
          go_wp2
          go_quiet (fail)
          go_wp2
          go_roundw
          case rel => exact ⟨i + 1 + 1, by omega, .inl (by omega), by go_num, _, rfl⟩
          case measure => simp [intOf]; omega
      · have hd : ¬ ((j : Int) < (L : Int)) := by omega
        have hd2 : decide ((j : Int) < (L : Int)) = false := decide_eq_false hd
        have hd3 : (L : Int) ≤ (j : Int) := by omega
        go_wp2
        go_ret
        exact ⟨rfl, N4.out.drewN q⟩
  · obtain rfl : L = 0 := by rcases hL with h | ⟨h, _⟩; exact h; exact absurd h hLm
    have hne : ((0 : Int) != (m1 : Int)) = true := by simp; omega
    have hne2 : ((0 : Int) == (m1 : Int)) = false := by simp; omega
    clear hL HZ hLm
    go_wp2_with fail
    refine (C1.out _ (New.refl _)).mono ?_
    rintro e w2 ⟨A2, rfl, p2, N2a⟩
    have NA := Lib.hid N2a
    have N2 := Lib.hid (N1.out.trans N2a); clear N2a
    have P2 := Lib.hid p2; clear p2
    go_wp2_with fail
    refine (C2.out _ NA.out).mono ?_
    rintro e w3 ⟨A3, c3, rfl, p3, N3a⟩
    have NB := Lib.hid (NA.out.trans N3a)
    have P2 := Lib.hid (P2.out.new N3a)
    have N3 := Lib.hid (N2.out.trans N3a); clear N3a
    have P3 := Lib.hid p3; clear p3
    go_wp2_with fail
    refine (equalPrs_any _ _ _ _ A2 A3 0 0 0 c3 zs (by omega) rfl _ P2.out P3.out).mono ?_
    rintro e w4 ⟨rfl, N4a⟩
    have NC := Lib.hid (NB.out.trans N4a)
    have P2 := Lib.hid (P2.out.new N4a)
    have N4 := Lib.hid (N3.out.trans N4a); clear N4a P3
    go_wp2_with fail
    refine (C2.out _ NC.out).mono ?_
    rintro e w5 ⟨A5, c5, rfl, p5, N5a⟩
    have P2 := Lib.hid (P2.out.new N5a)
    have N5 := Lib.hid (N4.out.trans N5a); clear N5a
    have P5 := Lib.hid p5; clear p5
    go_wp2_with fail
    refine (equalPrs_any _ _ _ _ A2 A5 0 0 0 c5 zs (by omega) rfl _ P2.out P5.out).mono ?_
    rintro e w6 ⟨rfl, N6a⟩
    have N6 := Lib.hid (N5.out.trans N6a); clear N6a
    go_wp2
    go_ret
    exact ⟨rfl, N6.out⟩
end Go.Proofs.Ytlmamglckamjjaa
