/- The drawn arguments of SeenBoxes. Condition: the code can be read. -/
import Derived.Test.YtokcbfnmnccacaaGreatYB
import Derived.Test.YtokcbfnmnccacaaGreatDraw
import Derived.Test.YtokcbfnmnccacaaGreatZS
import Derived.Test.YtokcbfnmnccacaaGreatAppH
namespace Go.Proofs.YtokcbfnmnccacaaGreat
open Go.RowKit

def DrawnS5 (w : World) (e : Ending) (w' : World) : Prop := ∃ (B : Option Addr) (n c : Nat) (ys : List Int) (x y v0 v1 v2 v3 : Int), e = .returned (.tuple #[.slice B n c, .int .i64 x, .int .i64 y, rc v0 v1 v2 v3]) ∧ Sts 9 w' B n ys ∧ n ≤ 16 ∧ n ≤ c ∧ (-1 ≤ x ∧ x ≤ 10001) ∧ (-1 ≤ y ∧ y ≤ 10001) ∧ New w w'
theorem allRectE {w : World} {g : Nat} {y0 y1 y2 y3 : Int} (h : Row w g [y0, y1, y2, y3]) : w.cell? ⟨g, 0, none⟩ = some (.int .i64 y0) ∧ w.cell? ⟨g, 1, none⟩ = some (.int .i64 y1) ∧ w.cell? ⟨g, 2, none⟩ = some (.int .i64 y2) ∧ w.cell? ⟨g, 3, none⟩ = some (.int .i64 y3) :=
  ⟨by simpa using h.c 0 (by simp), by simpa using h.c 1 (by simp), by simpa using h.c 2 (by simp), by simpa using h.c 3 (by simp)⟩
set_option maxRecDepth 100000 in
set_option maxHeartbeats 2000000 in
theorem DrawSeenBoxes_any (A : Option Addr) (n c : Nat) (hn : n ≤ maxLen) (hnc : n ≤ c) (w : World) (hb : Bytes w A n) :
    Calls Tryz.prog 19 #[.slice A n c] w (DrawnS5 w) := by
  have HB := Lib.hid hb
  clear hb
  go_enter Tryz.func19, Tryz.ntmps19
  go_wp2_with fail
  refine (newReader_any A n c hn hnc _ (HB.out.new (by (repeat (first | exact New.refl _ | assumption | refine New.alloc ?_ _ | refine New.drew ?_ | refine New.drewN ?_ _ | refine New.setCell ?_ (by first | omega | (simp; omega) | (simp; done)) _ | refine New.trans ?_ (by assumption)))))).mono ?_
  rintro e w1 ⟨rfl, ⟨m, hm, R1⟩, N1, z1⟩
  have z1' : w.heap.size + 1 < w1.heap.size := by simpa using z1
  simp only [World.size_alloc] at R1
  replace R1 := Lib.hid R1; replace N1 := Lib.hid N1
  have RR := Lib.hid ((Row.oneRect w 0 0 0 0 32).new N1.out)
  go_wp2_with fail
  refine (anyTree_any (w.heap.size + 1) A m 0 (by omega) hm _ R1.out).mono ?_
  rintro e w2 ⟨B, k, d, ys, rfl, k16, kd, S2, ⟨q2, lq2, R2⟩, G2⟩
  have z2 := G2.size
  replace S2 := Lib.hid S2; replace R2 := Lib.hid R2; replace G2 := Lib.hid G2
  go_wp2_with fail
  refine (someSide_any (w.heap.size + 1) A m (q2) (by omega) hm _ R2.out).mono ?_
  rintro e w3 ⟨x, rfl, xb, R3, G3⟩
  have z3 := G3.size
  have G3x := Lib.hid (only_trans only_refl G3)
  replace R3 := Lib.hid R3; replace G3 := Lib.hid (only_trans G2.out G3)
  go_wp2_with fail
  refine (someSide_any (w.heap.size + 1) A m (q2 + 1) (by omega) hm _ R3.out).mono ?_
  rintro e w4 ⟨y, rfl, yb, R4, G4⟩
  have z4 := G4.size
  have G4x := Lib.hid (only_trans G3x.out G4)
  replace R4 := Lib.hid R4; replace G4 := Lib.hid (only_trans G3.out G4)
  go_wp2_with fail
  refine (anyRect_any (w.heap.size + 1) A m (q2 + 1 + 1) (by omega) hm _ R4.out).mono ?_
  rintro e w5 ⟨v0, v1, v2, v3, rfl, -, -, -, -, ⟨q5, lq5, hq5, R5⟩, G5⟩
  have z5 := G5.size
  have G5x := Lib.hid (only_trans G4x.out G5)
  replace R5 := Lib.hid R5; replace G5 := Lib.hid (only_trans G4.out G5)
  have RX := Lib.hid (Row.oneRect w5 v0 v1 v2 v3 32)
  go_wp2_with fail
  refine (pick_any 2 (w.heap.size + 1) A m q5 (by omega) hm _ (R5.out.new (by (repeat (first | exact New.refl _ | assumption | refine New.alloc ?_ _ | refine New.drew ?_ | refine New.drewN ?_ _ | refine New.setCell ?_ (by first | omega | (simp; omega) | (simp; done)) _ | refine New.trans ?_ (by assumption)))))).mono ?_
  rintro e w6 ⟨p, rfl, p0, p1, R6, G6⟩
  have z6 := G6.size
  simp only [World.size_alloc] at z6
  have RX := Lib.hid (RX.out.keep G6 (by simp; omega))
  have G6x := Lib.hid (only_trans (only_alloc G5x.out _) G6)
  replace R6 := Lib.hid R6; replace G6 := Lib.hid (only_trans (only_alloc G5.out _) G6)
  have RR := Lib.hid (RR.out.keep G6.out (by simp))
  by_cases hp0 : p = 0
  · subst hp0
    go_wp2_with fail
    refine (pick_any 100 (w.heap.size + 1) A m (q5 + 1) (by omega) hm _ R6.out).mono ?_
    rintro e w7 ⟨a0, rfl, -, -, R7, G7⟩
    have z7 := G7.size
    have RX := Lib.hid (RX.out.keep G7 (by simp; omega))
    have RR := Lib.hid (RR.out.keep G7 (by simp))
    have G7x := Lib.hid (only_trans G6x.out G7)
    replace R7 := Lib.hid R7; replace G7 := Lib.hid (only_trans G6.out G7)
    go_wp2_with fail
    refine (pick_any 100 (w.heap.size + 1) A m (q5 + 1 + 1) (by omega) hm _ R7.out).mono ?_
    rintro e w8 ⟨a1, rfl, -, -, R8, G8⟩
    have z8 := G8.size
    have RX := Lib.hid (RX.out.keep G8 (by simp; omega))
    have RR := Lib.hid (RR.out.keep G8 (by simp))
    have G8x := Lib.hid (only_trans G7x.out G8)
    replace R8 := Lib.hid R8; replace G8 := Lib.hid (only_trans G7.out G8)
    go_wp2_with fail
    refine (pick_any 100 (w.heap.size + 1) A m (q5 + 1 + 1 + 1) (by omega) hm _ R8.out).mono ?_
    rintro e w9 ⟨a2, rfl, -, -, R9, G9⟩
    have z9 := G9.size
    have RX := Lib.hid (RX.out.keep G9 (by simp; omega))
    have RR := Lib.hid (RR.out.keep G9 (by simp))
    have G9x := Lib.hid (only_trans G8x.out G9)
    replace R9 := Lib.hid R9; replace G9 := Lib.hid (only_trans G8.out G9)
    go_wp2_with fail
    refine (pick_any 100 (w.heap.size + 1) A m (q5 + 1 + 1 + 1 + 1) (by omega) hm _ R9.out).mono ?_
    rintro e w10 ⟨a3, rfl, -, -, R10, G10⟩
    have z10 := G10.size
    have RX := Lib.hid (RX.out.keep G10 (by simp; omega))
    have RR := Lib.hid (RR.out.keep G10 (by simp))
    have G10x := Lib.hid (only_trans G9x.out G10)
    replace R10 := Lib.hid R10; replace G10 := Lib.hid (only_trans G9.out G10)
    obtain ⟨x0_, x1_, x2_, x3_⟩ := allRectE RX.out
    have h0 := RX.out.f 0 (by simp); have h1 := RX.out.f 1 (by simp); have h2 := RX.out.f 2 (by simp); have h3 := RX.out.f 3 (by simp)
    go_upto_region 8 with fail
    have RXu := RX.out.set_ (k := 0) (by simp) a0
    have RXu := RXu.set_ (k := 1) (by simp) a1
    have RXu := RXu.set_ (k := 2) (by simp) a2
    have RXu := RXu.set_ (k := 3) (by simp) a3
    simp only [List.set_cons_zero, List.set_cons_succ] at RXu
    have RRu := (((RR.out.far (p := ⟨w5.heap.size, 0, none⟩) (by show w5.heap.size ≠ _; omega) (.int .i64 a0)).far (p := ⟨w5.heap.size, 1, none⟩) (by show w5.heap.size ≠ _; omega) (.int .i64 a1)).far (p := ⟨w5.heap.size, 2, none⟩) (by show w5.heap.size ≠ _; omega) (.int .i64 a2)).far (p := ⟨w5.heap.size, 3, none⟩) (by show w5.heap.size ≠ _; omega) (.int .i64 a3)
    have GX := Lib.hid (only_set (only_set (only_set (only_set G10x.out (q := ⟨w5.heap.size, 0, none⟩) (by show w2.heap.size ≤ w5.heap.size; omega) (.int .i64 a0)) (q := ⟨w5.heap.size, 1, none⟩) (by show w2.heap.size ≤ w5.heap.size; omega) (.int .i64 a1)) (q := ⟨w5.heap.size, 2, none⟩) (by show w2.heap.size ≤ w5.heap.size; omega) (.int .i64 a2)) (q := ⟨w5.heap.size, 3, none⟩) (by show w2.heap.size ≤ w5.heap.size; omega) (.int .i64 a3))
    have GU := Lib.hid (only_set (only_set (only_set (only_set G10.out (q := ⟨w5.heap.size, 0, none⟩) (by show w1.heap.size ≤ w5.heap.size; omega) (.int .i64 a0)) (q := ⟨w5.heap.size, 1, none⟩) (by show w1.heap.size ≤ w5.heap.size; omega) (.int .i64 a1)) (q := ⟨w5.heap.size, 2, none⟩) (by show w1.heap.size ≤ w5.heap.size; omega) (.int .i64 a2)) (q := ⟨w5.heap.size, 3, none⟩) (by show w1.heap.size ≤ w5.heap.size; omega) (.int .i64 a3))
    clear x0_ x1_ x2_ x3_ h0 h1 h2 h3
    generalize ((((w10.setCell ⟨w5.heap.size, 0, none⟩ (.int .i64 a0)).setCell ⟨w5.heap.size, 1, none⟩ (.int .i64 a1)).setCell ⟨w5.heap.size, 2, none⟩ (.int .i64 a2)).setCell ⟨w5.heap.size, 3, none⟩ (.int .i64 a3)) = U at RXu RRu GX GU ⊢
    obtain ⟨t0, t1, t2, t3⟩ := allRectE RXu
    obtain ⟨r0, r1, r2, r3⟩ := allRectE RRu
    have f0 := RRu.f 0 (by simp); have f1 := RRu.f 1 (by simp); have f2 := RRu.f 2 (by simp); have f3 := RRu.f 3 (by simp)
    have RF := RRu.set_ (k := 0) (by simp) a0
    have RF := RF.set_ (k := 1) (by simp) a1
    have RF := RF.set_ (k := 2) (by simp) a2
    have RF := RF.set_ (k := 3) (by simp) a3
    simp only [List.set_cons_zero, List.set_cons_succ] at RF
    have GF := (own_set (own_set (own_set (own_set (World.grownBy.refl U (some w.heap.size)) (.int .i64 a0) (k := 0)) (.int .i64 a1) (k := 1)) (.int .i64 a2) (k := 2)) (.int .i64 a3) (k := 3))
    have NU := Lib.hid (new_only (show New w w1 from New.trans (by (repeat (first | exact New.refl _ | assumption | refine New.alloc ?_ _ | refine New.drew ?_ | refine New.drewN ?_ _ | refine New.setCell ?_ (by first | omega | (simp; omega) | (simp; done)) _ | refine New.trans ?_ (by assumption)))) N1.out) (show w.heap.size ≤ w.heap.size + 1 by omega) GU.out)
    have NF := Lib.hid (New.drew (New.setCell (New.setCell (New.setCell (New.setCell NU.out (p := ⟨w.heap.size, 0, none⟩) (Nat.le_refl _) (.int .i64 a0)) (p := ⟨w.heap.size, 1, none⟩) (Nat.le_refl _) (.int .i64 a1)) (p := ⟨w.heap.size, 2, none⟩) (Nat.le_refl _) (.int .i64 a2)) (p := ⟨w.heap.size, 3, none⟩) (Nat.le_refl _) (.int .i64 a3)))
    have CF := Lib.hid (Chg.trans (Chg.of_grown GX.out (Nat.zero_le _) z1') (Chg.of_grown (only_drew GF) (Nat.zero_le _) (Nat.lt_trans (Nat.lt_succ_self _) z1')))
    obtain ⟨uu0, uu1, uu2, uu3⟩ := allRectE (RF.new (New.refl _).drew)
    clear RF GF RXu RRu
    go_wp2
    go_region
    go_wp2
    refine bodyPost_ret (v := .tuple #[.slice B k d, .int .i64 x, .int .i64 y, rc a0 a1 a2 a3]) (by simp [results, Tryz.results19, go_sem, uu0, uu1, uu2, uu3]) rfl ?_
    exact ⟨B, k, d, ys, x, y, a0, a1, a2, a3, rfl, S2.out _ CF.out, k16, kd, xb, yb, NF.out⟩
  · have pb : (p == 0) = false := by simpa using hp0
    go_upto_region 8 with fail
    have RXu := RX.out
    have RRu := RR.out
    have GX := G6x; have GU := G6
    obtain ⟨t0, t1, t2, t3⟩ := allRectE RXu
    obtain ⟨r0, r1, r2, r3⟩ := allRectE RRu
    have f0 := RRu.f 0 (by simp); have f1 := RRu.f 1 (by simp); have f2 := RRu.f 2 (by simp); have f3 := RRu.f 3 (by simp)
    have RF := RRu.set_ (k := 0) (by simp) v0
    have RF := RF.set_ (k := 1) (by simp) v1
    have RF := RF.set_ (k := 2) (by simp) v2
    have RF := RF.set_ (k := 3) (by simp) v3
    simp only [List.set_cons_zero, List.set_cons_succ] at RF
    have GF := (own_set (own_set (own_set (own_set (World.grownBy.refl w6 (some w.heap.size)) (.int .i64 v0) (k := 0)) (.int .i64 v1) (k := 1)) (.int .i64 v2) (k := 2)) (.int .i64 v3) (k := 3))
    have NU := Lib.hid (new_only (show New w w1 from New.trans (by (repeat (first | exact New.refl _ | assumption | refine New.alloc ?_ _ | refine New.drew ?_ | refine New.drewN ?_ _ | refine New.setCell ?_ (by first | omega | (simp; omega) | (simp; done)) _ | refine New.trans ?_ (by assumption)))) N1.out) (show w.heap.size ≤ w.heap.size + 1 by omega) GU.out)
    have NF := Lib.hid (New.drew (New.setCell (New.setCell (New.setCell (New.setCell NU.out (p := ⟨w.heap.size, 0, none⟩) (Nat.le_refl _) (.int .i64 v0)) (p := ⟨w.heap.size, 1, none⟩) (Nat.le_refl _) (.int .i64 v1)) (p := ⟨w.heap.size, 2, none⟩) (Nat.le_refl _) (.int .i64 v2)) (p := ⟨w.heap.size, 3, none⟩) (Nat.le_refl _) (.int .i64 v3)))
    have CF := Lib.hid (Chg.trans (Chg.of_grown GX.out (Nat.zero_le _) z1') (Chg.of_grown (only_drew GF) (Nat.zero_le _) (Nat.lt_trans (Nat.lt_succ_self _) z1')))
    obtain ⟨uu0, uu1, uu2, uu3⟩ := allRectE (RF.new (New.refl _).drew)
    clear RF GF RXu RRu
    go_wp2
    go_region
    go_wp2
    refine bodyPost_ret (v := .tuple #[.slice B k d, .int .i64 x, .int .i64 y, rc v0 v1 v2 v3]) (by simp [results, Tryz.results19, go_sem, uu0, uu1, uu2, uu3]) rfl ?_
    exact ⟨B, k, d, ys, x, y, v0, v1, v2, v3, rfl, S2.out _ CF.out, k16, kd, xb, yb, NF.out⟩
end Go.Proofs.YtokcbfnmnccacaaGreat
