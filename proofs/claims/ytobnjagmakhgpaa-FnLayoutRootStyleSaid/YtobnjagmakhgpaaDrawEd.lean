/- A drawn tree, a drawn number of a box and a drawn box: the arguments of the edits. Condition: the code can be read. -/
import Derived.Test.YtobnjagmakhgpaaYB
import Derived.RegionTactic
import Derived.BigRegion
namespace Go.Proofs.Ytobnjagmakhgpaa
open Go.RowKit

/-- What drawing a tree, a number and a box leaves. -/
def DrawnE (w : World) (e : Ending) (w' : World) : Prop := ∃ (B : Option Addr) (n c : Nat) (zs : List Int) (x y0 y1 y2 y3 y4 y5 y6 y7 y8 : Int), e = .returned (.tuple #[.slice B n c, .int .i64 x, .agg #[.int .i64 y0, .int .i64 y1, .int .i64 y2, .int .i64 y3, .int .i64 y4, .int .i64 y5, .int .i64 y6, .int .i64 y7, .int .i64 y8]]) ∧ (∀ W, Chg 0 w.heap.size w' W → Sts 9 W B n zs) ∧ n ≤ 16 ∧ n ≤ c ∧ (-1 ≤ x ∧ x ≤ 16) ∧ New w w'
theorem Chg.wide {lo hi hi' : Nat} {w w1 : World} (h : Chg lo hi w w1) (hh : hi ≤ hi') : Chg lo hi' w w1 := ⟨h.os, h.tape, h.output, h.size, fun k hk hn => h.block k hk (fun hq => hn ⟨hq.1, Nat.lt_of_lt_of_le hq.2 hh⟩)⟩
set_option maxRecDepth 100000 in
set_option maxHeartbeats 4000000 in
theorem DrawAddBox_any (A : Option Addr) (n c : Nat) (hn : n ≤ maxLen) (hnc : n ≤ c) (w : World) (hb : Bytes w A n) :
    Calls Try.prog 21 #[.slice A n c] w (DrawnE w) := by
  have HB := Lib.hid hb
  clear hb
  have RZ := Lib.hid (Row.oneBox w 0 0 0 0 0 0 0 0 0 30)
  have N0 := Lib.hid ((New.refl w).alloc (.cells #[.int .i64 0, .int .i64 0, .int .i64 0, .int .i64 0, .int .i64 0, .int .i64 0, .int .i64 0, .int .i64 0, .int .i64 0] 30))
  have z0 := RZ.out.lt
  go_enter Try.func21, Try.ntmps21
  go_wp2_with fail
  generalize w.alloc (.cells #[.int .i64 0, .int .i64 0, .int .i64 0, .int .i64 0, .int .i64 0, .int .i64 0, .int .i64 0, .int .i64 0, .int .i64 0] 30) = w0 at *
  refine (newReader_any A n c hn hnc _ (HB.out.new N0.out)).mono ?_
  rintro e w1 ⟨rfl, ⟨m, hm, R1⟩, N1, z1⟩
  replace R1 := Lib.hid R1; replace RZ := Lib.hid (RZ.out.new N1); replace N1 := Lib.hid (N0.out.trans N1)
  go_wp2_with fail
  refine (anyTree_any w0.heap.size A m 0 (by omega) hm _ R1.out).mono ?_
  rintro e w2 ⟨B, k, d, zs, rfl, k16, kd, S2, ⟨q2, lq2, R2⟩, G2⟩
  replace RZ := Lib.hid (RZ.out.grown G2 (fun e => by have := Option.some.inj e; omega))
  replace R2 := Lib.hid R2; replace S2 := Lib.hid S2; replace G2 := Lib.hid G2
  go_wp2_with fail
  refine (someAt_any w0.heap.size A m q2 (by omega) hm B k d k16 _ R2.out).mono ?_
  rintro e w3 ⟨x, rfl, xb, ⟨q3, lq3, R3⟩, G3⟩
  have G3x := Lib.hid G3
  replace RZ := Lib.hid (RZ.out.grown G3 (fun e => by have := Option.some.inj e; omega))
  replace R3 := Lib.hid R3; replace G3 := Lib.hid (only_trans G2.out G3)
  go_wp2_with fail
  refine (someBox_any w0.heap.size A m q3 (by omega) hm _ R3.out).mono ?_
  rintro e w4 ⟨y1, y2, y3, y4, y5, y6, y7, y8, rfl, ⟨q4, lq4, R4⟩, G4⟩
  have z4 := G4.size
  have z2 := G2.out.size
  have z3 := G3.out.size
  have z5 := G3x.out.size
  replace RZ := Lib.hid (RZ.out.grown G4 (fun e => by have := Option.some.inj e; omega))
  have GX := Lib.hid (only_trans G3x.out G4)
  replace G4 := Lib.hid (only_trans G3.out G4); replace R4 := Lib.hid R4
  have zw : w1.heap.size ≤ w4.heap.size := by have := G4.out.size; omega
  clear R1 R2 R3 G2 G3 G3x
  have RB0 := Row.oneBox w4 0 y1 y2 y3 y4 y5 y6 y7 y8 30
  have NB : New w4 (w4.alloc (.cells #[.int .i64 0, .int .i64 y1, .int .i64 y2, .int .i64 y3, .int .i64 y4, .int .i64 y5, .int .i64 y6, .int .i64 y7, .int .i64 y8] 30)) := (New.refl w4).alloc _
  replace RZ := Lib.hid (RZ.out.new NB); replace GX := Lib.hid (only_new GX.out NB); have R5 := Lib.hid (R4.out.new NB)
  have G5 := Lib.hid (only_new G4.out NB)
  have RB := Lib.hid RB0
  clear RB0 NB R4 G4
  go_upto_region 5 with fail
  generalize (w4.alloc (.cells #[.int .i64 0, .int .i64 y1, .int .i64 y2, .int .i64 y3, .int .i64 y4, .int .i64 y5, .int .i64 y6, .int .i64 y7, .int .i64 y8] 30)) = w5 at *
  have zb := RB.out.lt
  go_wp2_with fail
  refine (pick_any 12 w0.heap.size A m q4 (by omega) hm _ R5.out).mono ?_
  rintro e w6 ⟨v, rfl, v0, v1, R6, G6⟩
  have z6 := G6.size
  replace RZ := Lib.hid (RZ.out.grown G6 (fun e => by have := Option.some.inj e; omega))
  replace RB := Lib.hid (RB.out.grown G6 (fun e => by have := Option.some.inj e; omega))
  have GY := Lib.hid (only_trans GX.out G6)
  have N6 := Lib.hid (new_only N1.out (Nat.le_of_lt z0) (only_trans G5.out G6))
  clear R5 R6 G5 G6 GX
  by_cases hv : v = 0
  · subst hv
    have b6 := RB.out.c 6 (by simp); have g6 := RB.out.f 6 (by simp)
    simp only [List.getD_cons_zero, List.getD_cons_succ] at b6
    have RB7 := RB.out.set_ (k := 6) (by simp) 11
    simp only [List.set_cons_zero, List.set_cons_succ] at RB7
    replace GY := Lib.hid (only_set GY.out (q := ⟨w4.heap.size, 6, none⟩) (show w2.heap.size ≤ w4.heap.size by omega) (.int .i64 11))
    replace N6 := Lib.hid (New.setCell N6.out (p := ⟨w4.heap.size, 6, none⟩) (show w.heap.size ≤ w4.heap.size by omega) (.int .i64 11))
    replace RZ := Lib.hid (RZ.out.far (p := ⟨w4.heap.size, 6, none⟩) (by simp; omega) (.int .i64 11))
    replace RB := Lib.hid RB7
    clear RB7
    go_upto_region 7 with fail
    generalize w6.setCell ⟨w4.heap.size, 6, none⟩ (.int .i64 11) = w7 at *
    clear b6 g6
    have t0 := RB.out.c 0 (by simp); have r0 := RZ.out.c 0 (by simp); have f0 := RZ.out.f 0 (by simp)
    have t1 := RB.out.c 1 (by simp); have r1 := RZ.out.c 1 (by simp); have f1 := RZ.out.f 1 (by simp)
    have t2 := RB.out.c 2 (by simp); have r2 := RZ.out.c 2 (by simp); have f2 := RZ.out.f 2 (by simp)
    have t3 := RB.out.c 3 (by simp); have r3 := RZ.out.c 3 (by simp); have f3 := RZ.out.f 3 (by simp)
    have t4 := RB.out.c 4 (by simp); have r4 := RZ.out.c 4 (by simp); have f4 := RZ.out.f 4 (by simp)
    have t5 := RB.out.c 5 (by simp); have r5 := RZ.out.c 5 (by simp); have f5 := RZ.out.f 5 (by simp)
    have t6 := RB.out.c 6 (by simp); have r6 := RZ.out.c 6 (by simp); have f6 := RZ.out.f 6 (by simp)
    have t7 := RB.out.c 7 (by simp); have r7 := RZ.out.c 7 (by simp); have f7 := RZ.out.f 7 (by simp)
    have t8 := RB.out.c 8 (by simp); have r8 := RZ.out.c 8 (by simp); have f8 := RZ.out.f 8 (by simp)
    simp only [List.getD_cons_zero, List.getD_cons_succ] at t0 r0 t1 r1 t2 r2 t3 r3 t4 r4 t5 r5 t6 r6 t7 r7 t8 r8
    have RF := RZ.out
    have RF := RF.set_ (k := 0) (by simp) 0
    have RF := RF.set_ (k := 1) (by simp) y1
    have RF := RF.set_ (k := 2) (by simp) y2
    have RF := RF.set_ (k := 3) (by simp) y3
    have RF := RF.set_ (k := 4) (by simp) y4
    have RF := RF.set_ (k := 5) (by simp) y5
    have RF := RF.set_ (k := 6) (by simp) 11
    have RF := RF.set_ (k := 7) (by simp) y7
    have RF := RF.set_ (k := 8) (by simp) y8
    simp only [List.set_cons_zero, List.set_cons_succ] at RF
    have GF := (own_set (own_set (own_set (own_set (own_set (own_set (own_set (own_set (own_set (World.grownBy.refl w7 (some w.heap.size)) (.int .i64 0) (k := 0)) (.int .i64 y1) (k := 1)) (.int .i64 y2) (k := 2)) (.int .i64 y3) (k := 3)) (.int .i64 y4) (k := 4)) (.int .i64 y5) (k := 5)) (.int .i64 11) (k := 6)) (.int .i64 y7) (k := 7)) (.int .i64 y8) (k := 8))
    have NF := Lib.hid ((New.setCell (New.setCell (New.setCell (New.setCell (New.setCell (New.setCell (New.setCell (New.setCell (New.setCell N6.out (p := ⟨w.heap.size, 0, none⟩) (Nat.le_refl _) (.int .i64 0)) (p := ⟨w.heap.size, 1, none⟩) (Nat.le_refl _) (.int .i64 y1)) (p := ⟨w.heap.size, 2, none⟩) (Nat.le_refl _) (.int .i64 y2)) (p := ⟨w.heap.size, 3, none⟩) (Nat.le_refl _) (.int .i64 y3)) (p := ⟨w.heap.size, 4, none⟩) (Nat.le_refl _) (.int .i64 y4)) (p := ⟨w.heap.size, 5, none⟩) (Nat.le_refl _) (.int .i64 y5)) (p := ⟨w.heap.size, 6, none⟩) (Nat.le_refl _) (.int .i64 11)) (p := ⟨w.heap.size, 7, none⟩) (Nat.le_refl _) (.int .i64 y7)) (p := ⟨w.heap.size, 8, none⟩) (Nat.le_refl _) (.int .i64 y8)).drew)
    have CF := Lib.hid (Chg.trans (Chg.of_grown GY.out (Nat.zero_le _) z1) (Chg.of_grown (only_drew GF) (Nat.zero_le _) (Nat.lt_trans z0 z1)))
    have RF := RF.new (New.refl _).drew
    have uu0 := RF.c 0 (by simp)
    have uu1 := RF.c 1 (by simp)
    have uu2 := RF.c 2 (by simp)
    have uu3 := RF.c 3 (by simp)
    have uu4 := RF.c 4 (by simp)
    have uu5 := RF.c 5 (by simp)
    have uu6 := RF.c 6 (by simp)
    have uu7 := RF.c 7 (by simp)
    have uu8 := RF.c 8 (by simp)
    simp only [List.getD_cons_zero, List.getD_cons_succ] at uu0 uu1 uu2 uu3 uu4 uu5 uu6 uu7 uu8
    clear RF GF
    go_wp2
    go_region
    generalize (((((((((w7.setCell ⟨w.heap.size, 0, none⟩ (.int .i64 0)).setCell ⟨w.heap.size, 1, none⟩ (.int .i64 y1)).setCell ⟨w.heap.size, 2, none⟩ (.int .i64 y2)).setCell ⟨w.heap.size, 3, none⟩ (.int .i64 y3)).setCell ⟨w.heap.size, 4, none⟩ (.int .i64 y4)).setCell ⟨w.heap.size, 5, none⟩ (.int .i64 y5)).setCell ⟨w.heap.size, 6, none⟩ (.int .i64 11)).setCell ⟨w.heap.size, 7, none⟩ (.int .i64 y7)).setCell ⟨w.heap.size, 8, none⟩ (.int .i64 y8)).drew = wF at *
    go_wp2
    refine bodyPost_ret (v := .tuple #[.slice B k d, .int .i64 x, .agg #[.int .i64 0, .int .i64 y1, .int .i64 y2, .int .i64 y3, .int .i64 y4, .int .i64 y5, .int .i64 11, .int .i64 y7, .int .i64 y8]]) (by simp [results, Try.results21, go_sem, uu0, uu1, uu2, uu3, uu4, uu5, uu6, uu7, uu8]) rfl ?_
    exact ⟨B, k, d, zs, x, 0, y1, y2, y3, y4, y5, 11, y7, y8, rfl, fun W hW => S2.out _ (CF.out.trans (hW.wide (Nat.le_of_lt (Nat.lt_trans z0 z1)))), k16, kd, xb, NF.out⟩
  · have hvb : (v == 0) = false := by simpa using hv
    go_upto_region 7 with fail
    have t0 := RB.out.c 0 (by simp); have r0 := RZ.out.c 0 (by simp); have f0 := RZ.out.f 0 (by simp)
    have t1 := RB.out.c 1 (by simp); have r1 := RZ.out.c 1 (by simp); have f1 := RZ.out.f 1 (by simp)
    have t2 := RB.out.c 2 (by simp); have r2 := RZ.out.c 2 (by simp); have f2 := RZ.out.f 2 (by simp)
    have t3 := RB.out.c 3 (by simp); have r3 := RZ.out.c 3 (by simp); have f3 := RZ.out.f 3 (by simp)
    have t4 := RB.out.c 4 (by simp); have r4 := RZ.out.c 4 (by simp); have f4 := RZ.out.f 4 (by simp)
    have t5 := RB.out.c 5 (by simp); have r5 := RZ.out.c 5 (by simp); have f5 := RZ.out.f 5 (by simp)
    have t6 := RB.out.c 6 (by simp); have r6 := RZ.out.c 6 (by simp); have f6 := RZ.out.f 6 (by simp)
    have t7 := RB.out.c 7 (by simp); have r7 := RZ.out.c 7 (by simp); have f7 := RZ.out.f 7 (by simp)
    have t8 := RB.out.c 8 (by simp); have r8 := RZ.out.c 8 (by simp); have f8 := RZ.out.f 8 (by simp)
    simp only [List.getD_cons_zero, List.getD_cons_succ] at t0 r0 t1 r1 t2 r2 t3 r3 t4 r4 t5 r5 t6 r6 t7 r7 t8 r8
    have RF := RZ.out
    have RF := RF.set_ (k := 0) (by simp) 0
    have RF := RF.set_ (k := 1) (by simp) y1
    have RF := RF.set_ (k := 2) (by simp) y2
    have RF := RF.set_ (k := 3) (by simp) y3
    have RF := RF.set_ (k := 4) (by simp) y4
    have RF := RF.set_ (k := 5) (by simp) y5
    have RF := RF.set_ (k := 6) (by simp) y6
    have RF := RF.set_ (k := 7) (by simp) y7
    have RF := RF.set_ (k := 8) (by simp) y8
    simp only [List.set_cons_zero, List.set_cons_succ] at RF
    have GF := (own_set (own_set (own_set (own_set (own_set (own_set (own_set (own_set (own_set (World.grownBy.refl w6 (some w.heap.size)) (.int .i64 0) (k := 0)) (.int .i64 y1) (k := 1)) (.int .i64 y2) (k := 2)) (.int .i64 y3) (k := 3)) (.int .i64 y4) (k := 4)) (.int .i64 y5) (k := 5)) (.int .i64 y6) (k := 6)) (.int .i64 y7) (k := 7)) (.int .i64 y8) (k := 8))
    have NF := Lib.hid ((New.setCell (New.setCell (New.setCell (New.setCell (New.setCell (New.setCell (New.setCell (New.setCell (New.setCell N6.out (p := ⟨w.heap.size, 0, none⟩) (Nat.le_refl _) (.int .i64 0)) (p := ⟨w.heap.size, 1, none⟩) (Nat.le_refl _) (.int .i64 y1)) (p := ⟨w.heap.size, 2, none⟩) (Nat.le_refl _) (.int .i64 y2)) (p := ⟨w.heap.size, 3, none⟩) (Nat.le_refl _) (.int .i64 y3)) (p := ⟨w.heap.size, 4, none⟩) (Nat.le_refl _) (.int .i64 y4)) (p := ⟨w.heap.size, 5, none⟩) (Nat.le_refl _) (.int .i64 y5)) (p := ⟨w.heap.size, 6, none⟩) (Nat.le_refl _) (.int .i64 y6)) (p := ⟨w.heap.size, 7, none⟩) (Nat.le_refl _) (.int .i64 y7)) (p := ⟨w.heap.size, 8, none⟩) (Nat.le_refl _) (.int .i64 y8)).drew)
    have CF := Lib.hid (Chg.trans (Chg.of_grown GY.out (Nat.zero_le _) z1) (Chg.of_grown (only_drew GF) (Nat.zero_le _) (Nat.lt_trans z0 z1)))
    have RF := RF.new (New.refl _).drew
    have uu0 := RF.c 0 (by simp)
    have uu1 := RF.c 1 (by simp)
    have uu2 := RF.c 2 (by simp)
    have uu3 := RF.c 3 (by simp)
    have uu4 := RF.c 4 (by simp)
    have uu5 := RF.c 5 (by simp)
    have uu6 := RF.c 6 (by simp)
    have uu7 := RF.c 7 (by simp)
    have uu8 := RF.c 8 (by simp)
    simp only [List.getD_cons_zero, List.getD_cons_succ] at uu0 uu1 uu2 uu3 uu4 uu5 uu6 uu7 uu8
    clear RF GF
    go_wp2
    go_region
    generalize (((((((((w6.setCell ⟨w.heap.size, 0, none⟩ (.int .i64 0)).setCell ⟨w.heap.size, 1, none⟩ (.int .i64 y1)).setCell ⟨w.heap.size, 2, none⟩ (.int .i64 y2)).setCell ⟨w.heap.size, 3, none⟩ (.int .i64 y3)).setCell ⟨w.heap.size, 4, none⟩ (.int .i64 y4)).setCell ⟨w.heap.size, 5, none⟩ (.int .i64 y5)).setCell ⟨w.heap.size, 6, none⟩ (.int .i64 y6)).setCell ⟨w.heap.size, 7, none⟩ (.int .i64 y7)).setCell ⟨w.heap.size, 8, none⟩ (.int .i64 y8)).drew = wF at *
    go_wp2
    refine bodyPost_ret (v := .tuple #[.slice B k d, .int .i64 x, .agg #[.int .i64 0, .int .i64 y1, .int .i64 y2, .int .i64 y3, .int .i64 y4, .int .i64 y5, .int .i64 y6, .int .i64 y7, .int .i64 y8]]) (by simp [results, Try.results21, go_sem, uu0, uu1, uu2, uu3, uu4, uu5, uu6, uu7, uu8]) rfl ?_
    exact ⟨B, k, d, zs, x, 0, y1, y2, y3, y4, y5, y6, y7, y8, rfl, fun W hW => S2.out _ (CF.out.trans (hW.wide (Nat.le_of_lt (Nat.lt_trans z0 z1)))), k16, kd, xb, NF.out⟩
set_option maxRecDepth 100000 in
set_option maxHeartbeats 4000000 in
theorem DrawStyleBox_any (A : Option Addr) (n c : Nat) (hn : n ≤ maxLen) (hnc : n ≤ c) (w : World) (hb : Bytes w A n) :
    Calls Try.prog 27 #[.slice A n c] w (DrawnE w) := by
  have HB := Lib.hid hb
  clear hb
  have RZ := Lib.hid (Row.oneBox w 0 0 0 0 0 0 0 0 0 30)
  have N0 := Lib.hid ((New.refl w).alloc (.cells #[.int .i64 0, .int .i64 0, .int .i64 0, .int .i64 0, .int .i64 0, .int .i64 0, .int .i64 0, .int .i64 0, .int .i64 0] 30))
  have z0 := RZ.out.lt
  go_enter Try.func27, Try.ntmps27
  go_wp2_with fail
  generalize w.alloc (.cells #[.int .i64 0, .int .i64 0, .int .i64 0, .int .i64 0, .int .i64 0, .int .i64 0, .int .i64 0, .int .i64 0, .int .i64 0] 30) = w0 at *
  refine (DrawAddBox_any A n c hn hnc _ (HB.out.new N0.out)).mono ?_
  rintro e w1 ⟨B, k, d, zs, x, y0, y1, y2, y3, y4, y5, y6, y7, y8, rfl, S1, k16, kd, xb, N1⟩
  have z1 := N1.le
  replace RZ := Lib.hid (RZ.out.new N1); replace N1 := Lib.hid (N0.out.trans N1)
  have r0 := RZ.out.c 0 (by simp); have f0 := RZ.out.f 0 (by simp)
  have r1 := RZ.out.c 1 (by simp); have f1 := RZ.out.f 1 (by simp)
  have r2 := RZ.out.c 2 (by simp); have f2 := RZ.out.f 2 (by simp)
  have r3 := RZ.out.c 3 (by simp); have f3 := RZ.out.f 3 (by simp)
  have r4 := RZ.out.c 4 (by simp); have f4 := RZ.out.f 4 (by simp)
  have r5 := RZ.out.c 5 (by simp); have f5 := RZ.out.f 5 (by simp)
  have r6 := RZ.out.c 6 (by simp); have f6 := RZ.out.f 6 (by simp)
  have r7 := RZ.out.c 7 (by simp); have f7 := RZ.out.f 7 (by simp)
  have r8 := RZ.out.c 8 (by simp); have f8 := RZ.out.f 8 (by simp)
  simp only [List.getD_cons_zero, List.getD_cons_succ] at r0 r1 r2 r3 r4 r5 r6 r7 r8
  have RF := RZ.out
  have RF := RF.set_ (k := 0) (by simp) y0
  have RF := RF.set_ (k := 1) (by simp) y1
  have RF := RF.set_ (k := 2) (by simp) y2
  have RF := RF.set_ (k := 3) (by simp) y3
  have RF := RF.set_ (k := 4) (by simp) y4
  have RF := RF.set_ (k := 5) (by simp) y5
  have RF := RF.set_ (k := 6) (by simp) y6
  have RF := RF.set_ (k := 7) (by simp) y7
  have RF := RF.set_ (k := 8) (by simp) y8
  simp only [List.set_cons_zero, List.set_cons_succ] at RF
  have GF := (own_set (own_set (own_set (own_set (own_set (own_set (own_set (own_set (own_set (World.grownBy.refl w1 (some w.heap.size)) (.int .i64 y0) (k := 0)) (.int .i64 y1) (k := 1)) (.int .i64 y2) (k := 2)) (.int .i64 y3) (k := 3)) (.int .i64 y4) (k := 4)) (.int .i64 y5) (k := 5)) (.int .i64 y6) (k := 6)) (.int .i64 y7) (k := 7)) (.int .i64 y8) (k := 8))
  have NF := Lib.hid (New.setCell (New.setCell (New.setCell (New.setCell (New.setCell (New.setCell (New.setCell (New.setCell (New.setCell N1.out (p := ⟨w.heap.size, 0, none⟩) (Nat.le_refl _) (.int .i64 y0)) (p := ⟨w.heap.size, 1, none⟩) (Nat.le_refl _) (.int .i64 y1)) (p := ⟨w.heap.size, 2, none⟩) (Nat.le_refl _) (.int .i64 y2)) (p := ⟨w.heap.size, 3, none⟩) (Nat.le_refl _) (.int .i64 y3)) (p := ⟨w.heap.size, 4, none⟩) (Nat.le_refl _) (.int .i64 y4)) (p := ⟨w.heap.size, 5, none⟩) (Nat.le_refl _) (.int .i64 y5)) (p := ⟨w.heap.size, 6, none⟩) (Nat.le_refl _) (.int .i64 y6)) (p := ⟨w.heap.size, 7, none⟩) (Nat.le_refl _) (.int .i64 y7)) (p := ⟨w.heap.size, 8, none⟩) (Nat.le_refl _) (.int .i64 y8))
  have CF := Lib.hid (Chg.of_grown GF (Nat.zero_le _) z0)
  have uu0 := RF.c 0 (by simp)
  have uu1 := RF.c 1 (by simp)
  have uu2 := RF.c 2 (by simp)
  have uu3 := RF.c 3 (by simp)
  have uu4 := RF.c 4 (by simp)
  have uu5 := RF.c 5 (by simp)
  have uu6 := RF.c 6 (by simp)
  have uu7 := RF.c 7 (by simp)
  have uu8 := RF.c 8 (by simp)
  simp only [List.getD_cons_zero, List.getD_cons_succ] at uu0 uu1 uu2 uu3 uu4 uu5 uu6 uu7 uu8
  clear RF GF
  go_wp2_with fail
  generalize (((((((((w1.setCell ⟨w.heap.size, 0, none⟩ (.int .i64 y0)).setCell ⟨w.heap.size, 1, none⟩ (.int .i64 y1)).setCell ⟨w.heap.size, 2, none⟩ (.int .i64 y2)).setCell ⟨w.heap.size, 3, none⟩ (.int .i64 y3)).setCell ⟨w.heap.size, 4, none⟩ (.int .i64 y4)).setCell ⟨w.heap.size, 5, none⟩ (.int .i64 y5)).setCell ⟨w.heap.size, 6, none⟩ (.int .i64 y6)).setCell ⟨w.heap.size, 7, none⟩ (.int .i64 y7)).setCell ⟨w.heap.size, 8, none⟩ (.int .i64 y8)) = wF at *
  refine bodyPost_ret (v := .tuple #[.slice B k d, .int .i64 x, .agg #[.int .i64 y0, .int .i64 y1, .int .i64 y2, .int .i64 y3, .int .i64 y4, .int .i64 y5, .int .i64 y6, .int .i64 y7, .int .i64 y8]]) (by simp [results, Try.results27, go_sem, uu0, uu1, uu2, uu3, uu4, uu5, uu6, uu7, uu8]) rfl ?_
  exact ⟨B, k, d, zs, x, y0, y1, y2, y3, y4, y5, y6, y7, y8, rfl, fun W hW => S1 _ (CF.out.trans (hW.wide (Nat.le_of_lt z0))), k16, kd, xb, NF.out⟩
end Go.Proofs.Ytobnjagmakhgpaa
