/- Drawn trees: a short list of boxes that can be read, and a reader that has moved on. Condition: the code can be read. -/
import Derived.Test.YtffggmjhaaehlaaDoorTreeA
import Derived.Test.YtffggmjhaaehlaaDoorDrawOf
namespace Go.Proofs.YtffggmjhaaehlaaDoor
open Go.RowKit

/-- What drawing a box leaves. -/
def DrawnB (w : World) (a : Nat) (A : Option Addr) (m p : Nat) (e : Ending) (w' : World) : Prop :=
  ∃ y1 y2 y3 y4 y5 y6 y7 y8 : Int, e = .returned (.agg #[.int .i64 0, .int .i64 y1, .int .i64 y2, .int .i64 y3, .int .i64 y4, .int .i64 y5, .int .i64 y6, .int .i64 y7, .int .i64 y8]) ∧ (∃ q, q ≤ p + 8 ∧ Rdr w' a A m q) ∧ w.grownBy w' (some a)
set_option maxRecDepth 100000 in
set_option maxHeartbeats 1000000 in
theorem someBox_any (a : Nat) (A : Option Addr) (m p : Nat) (hp : p ≤ 900000) (hm : m ≤ 2000) (w : World) (h : Rdr w a A m p) :
    Calls Tryd.prog 53 #[.pointer (some ⟨a, 0, none⟩)] w (DrawnB w a A m p) := by
  have hlt : a < w.heap.size := World.block_lt_of_cell? w ⟨a, 1, none⟩ h.pos
  have HR := Lib.hid h
  clear h
  go_enter Tryd.func53, Tryd.ntmps53
  go_wp2_with fail
  refine (pick_any 4 a A m p (by omega) hm _ (HR.out.new (by (repeat (first | exact New.refl _ | assumption | refine New.alloc ?_ _ | refine New.drew ?_ | refine New.drewN ?_ _ | refine New.setCell ?_ (by first | omega | (simp; omega) | (simp; done)) _ | refine New.trans ?_ (by assumption)))))).mono ?_
  rintro e w1 ⟨v1, rfl, _, _, R1, G1⟩
  have z1 := G1.size; simp at z1
  replace R1 := Lib.hid R1; have H1 := Lib.hid G1; replace G1 := Lib.hid (only_trans (only_alloc only_refl _) G1)
  go_wp2_with fail
  refine (one_any [0, 0, 1, 5] (by simp) (by simp) w1.heap.size 4 a A m (p + 1) (by omega) hm _ (R1.out.new (by (repeat (first | exact New.refl _ | assumption | refine New.alloc ?_ _ | refine New.drew ?_ | refine New.drewN ?_ _ | refine New.setCell ?_ (by first | omega | (simp; omega) | (simp; done)) _ | refine New.trans ?_ (by assumption))))) (by omega) (by simp) (lit_at [0, 0, 1, 5] _ _ _ rfl)).mono ?_
  rintro e w2 ⟨v2, rfl, _, R2, G2⟩
  have z2 := G2.size; simp at z2
  replace R2 := Lib.hid R2; have H2 := Lib.hid (only_trans (only_alloc H1.out _) G2); replace G2 := Lib.hid (only_trans (only_alloc G1.out _) G2)
  go_wp2_with fail
  refine (one_any [0, 2, 0, 5] (by simp) (by simp) w2.heap.size 4 a A m (p + 2) (by omega) hm _ (R2.out.new (by (repeat (first | exact New.refl _ | assumption | refine New.alloc ?_ _ | refine New.drew ?_ | refine New.drewN ?_ _ | refine New.setCell ?_ (by first | omega | (simp; omega) | (simp; done)) _ | refine New.trans ?_ (by assumption))))) (by omega) (by simp) (lit_at [0, 2, 0, 5] _ _ _ rfl)).mono ?_
  rintro e w3 ⟨v3, rfl, _, R3, G3⟩
  have z3 := G3.size; simp at z3
  replace R3 := Lib.hid R3; have H3 := Lib.hid (only_trans (only_alloc H2.out _) G3); replace G3 := Lib.hid (only_trans (only_alloc G2.out _) G3)
  go_wp2_with fail
  refine (one_any [0, 1, 2, 0] (by simp) (by simp) w3.heap.size 4 a A m (p + 3) (by omega) hm _ (R3.out.new (by (repeat (first | exact New.refl _ | assumption | refine New.alloc ?_ _ | refine New.drew ?_ | refine New.drewN ?_ _ | refine New.setCell ?_ (by first | omega | (simp; omega) | (simp; done)) _ | refine New.trans ?_ (by assumption))))) (by omega) (by simp) (lit_at [0, 1, 2, 0] _ _ _ rfl)).mono ?_
  rintro e w4 ⟨v4, rfl, _, R4, G4⟩
  have z4 := G4.size; simp at z4
  replace R4 := Lib.hid R4; have H4 := Lib.hid (only_trans (only_alloc H3.out _) G4); replace G4 := Lib.hid (only_trans (only_alloc G3.out _) G4)
  go_wp2_with fail
  refine (one_any [0, 1, 1, 3] (by simp) (by simp) w4.heap.size 4 a A m (p + 4) (by omega) hm _ (R4.out.new (by (repeat (first | exact New.refl _ | assumption | refine New.alloc ?_ _ | refine New.drew ?_ | refine New.drewN ?_ _ | refine New.setCell ?_ (by first | omega | (simp; omega) | (simp; done)) _ | refine New.trans ?_ (by assumption))))) (by omega) (by simp) (lit_at [0, 1, 1, 3] _ _ _ rfl)).mono ?_
  rintro e w5 ⟨v5, rfl, _, R5, G5⟩
  have z5 := G5.size; simp at z5
  replace R5 := Lib.hid R5; have H5 := Lib.hid (only_trans (only_alloc H4.out _) G5); replace G5 := Lib.hid (only_trans (only_alloc G4.out _) G5)
  go_wp2_with fail
  refine (pick_any 4 a A m (p + 4 + 1) (by omega) hm _ R5.out).mono ?_
  rintro e w6 ⟨v6, rfl, _, _, R6, G6⟩
  have z6 := G6.size
  replace R6 := Lib.hid R6; have H6 := Lib.hid (only_trans H5.out G6); replace G6 := Lib.hid (only_trans G5.out G6)
  have c0 : ∀ o, o < 9 → w6.cell? ⟨w.heap.size, o, none⟩ = some (.int .i64 0) := fun o ho => (only_cells (w0 := w.alloc (.cells #[.int .i64 0, .int .i64 0, .int .i64 0, .int .i64 0, .int .i64 0, .int .i64 0, .int .i64 0, .int .i64 0, .int .i64 0] 32)) H6.out w.heap.size o (by simp) (by omega)).trans (by
    match o, ho with
    | 0, _ => simp [go_sem]
    | 1, _ => simp [go_sem]
    | 2, _ => simp [go_sem]
    | 3, _ => simp [go_sem]
    | 4, _ => simp [go_sem]
    | 5, _ => simp [go_sem]
    | 6, _ => simp [go_sem]
    | 7, _ => simp [go_sem]
    | 8, _ => simp [go_sem]
    | o + 9, h => omega)
  have f0 : ∀ o, w6.frozen? ⟨w.heap.size, o, none⟩ = false := fun o => (only_marks H6.out w.heap.size o (by simp) (by omega)).trans (by simp [go_sem])
  have ltr : w.heap.size < w6.heap.size := by omega
  have RR := Lib.hid ((⟨ltr, fun o ho => (c0 o (by simpa using ho)).trans (by simp; match o, ho with | 0, _ => rfl | 1, _ => rfl | 2, _ => rfl | 3, _ => rfl | 4, _ => rfl | 5, _ => rfl | 6, _ => rfl | 7, _ => rfl | 8, _ => rfl | o + 9, h => exact absurd h (by simp)), fun o _ => f0 o⟩ : Row w6 w.heap.size [0, 0, 0, 0, 0, 0, 0, 0, 0]).new ((New.refl w6).alloc (.cells #[.int .i64 0, .int .i64 v1, .int .i64 0, .int .i64 0, .int .i64 v2, .int .i64 v3, .int .i64 v4, .int .i64 v5, .int .i64 v6] 32)))
  have RT := Lib.hid (Row.oneBox w6 0 v1 0 0 v2 v3 v4 v5 v6 32)
  have R7 := Lib.hid (R6.out.new ((New.refl w6).alloc (.cells #[.int .i64 0, .int .i64 v1, .int .i64 0, .int .i64 0, .int .i64 v2, .int .i64 v3, .int .i64 v4, .int .i64 v5, .int .i64 v6] 32)))
  have G7 := Lib.hid (only_alloc G6.out (.cells #[.int .i64 0, .int .i64 v1, .int .i64 0, .int .i64 0, .int .i64 v2, .int .i64 v3, .int .i64 v4, .int .i64 v5, .int .i64 v6] 32))
  have lt7 : w6.heap.size < (w6.alloc (.cells #[.int .i64 0, .int .i64 v1, .int .i64 0, .int .i64 0, .int .i64 v2, .int .i64 v3, .int .i64 v4, .int .i64 v5, .int .i64 v6] 32)).heap.size := by simp
  clear H1 H2 H3 H4 H5 H6 c0 f0 R1 R2 R3 R4 R5 R6 G1 G2 G3 G4 G5 G6
  go_upto_region 2 with fail
  generalize w6.alloc (.cells #[.int .i64 0, .int .i64 v1, .int .i64 0, .int .i64 0, .int .i64 v2, .int .i64 v3, .int .i64 v4, .int .i64 v5, .int .i64 v6] 32) = wB at *
  by_cases hv : v1 = 0
  · subst hv
    have k0 := RT.out.c 1 (by simp)
    simp only [List.getD_cons_zero, List.getD_cons_succ] at k0
    go_wp2_with fail
    refine (one_any [10, 30, 50, 0, 100, 7] (by simp) (by simp) wB.heap.size 6 a A m (p + 4 + 1 + 1) (by omega) hm _ (R7.out.new (by (repeat (first | exact New.refl _ | assumption | refine New.alloc ?_ _ | refine New.drew ?_ | refine New.drewN ?_ _ | refine New.setCell ?_ (by first | omega | (simp; omega) | (simp; done)) _ | refine New.trans ?_ (by assumption))))) (by omega) (by simp) (lit_at [10, 30, 50, 0, 100, 7] _ _ _ rfl)).mono ?_
    rintro e w8 ⟨v7, rfl, _, R8, G8⟩
    have z8 := G8.size; simp at z8
    have RT2 := Lib.hid ((RT.out.new ((New.refl _).alloc (.cells ([10, 30, 50, 0, 100, 7].map (Value.int .i64)).toArray 3))).chg (Chg.of_grown G8 (Nat.le_refl a) (Nat.lt_succ_self a)) (by omega))
    have RR2 := Lib.hid ((RR.out.new ((New.refl _).alloc (.cells ([10, 30, 50, 0, 100, 7].map (Value.int .i64)).toArray 3))).chg (Chg.of_grown G8 (Nat.le_refl a) (Nat.lt_succ_self a)) (by omega))
    replace G8 := Lib.hid (only_trans (only_alloc G7.out _) G8); replace R8 := Lib.hid R8
    have s0 := RT2.out.c 2 (by simp); have q0 := RT2.out.f 2 (by simp)
    simp only [List.getD_cons_zero, List.getD_cons_succ] at s0
    have RT3 : Hid (Row (w8.setCell ⟨w6.heap.size, 2, none⟩ (.int .i64 v7)) w6.heap.size [0, 0, v7, 0, v2, v3, v4, v5, v6]) := Lib.hid (RT2.out.set_ (k := 2) (by simp) v7)
    have RR3 := Lib.hid (RR2.out.far (p := ⟨w6.heap.size, 2, none⟩) (by simp; omega) (.int .i64 v7))
    have R9 := Lib.hid (R8.out.set (q := ⟨w6.heap.size, 2, none⟩) (by simp; omega) (.int .i64 v7))
    have G9 := Lib.hid (only_set G8.out (q := ⟨w6.heap.size, 2, none⟩) (by simp; omega) (.int .i64 v7))
    have z9 : (w8.setCell ⟨w6.heap.size, 2, none⟩ (.int .i64 v7)).heap.size = w8.heap.size := by simp [World.setCell]
    clear RT RR RT2 RR2 R7 G7 R8 G8 k0
    go_upto_region 4 with fail
    generalize w8.setCell ⟨w6.heap.size, 2, none⟩ (.int .i64 v7) = wC at *
    clear s0 q0
    have z10 : w6.heap.size < wC.heap.size := by omega
    clear z9
    go_wp2_with fail
    refine (one_any [10, 20, 0, 40, 100, 3] (by simp) (by simp) wC.heap.size 6 a A m (p + 4 + 1 + 1 + 1) (by omega) hm _ (R9.out.new (by (repeat (first | exact New.refl _ | assumption | refine New.alloc ?_ _ | refine New.drew ?_ | refine New.drewN ?_ _ | refine New.setCell ?_ (by first | omega | (simp; omega) | (simp; done)) _ | refine New.trans ?_ (by assumption))))) (by omega) (by simp) (lit_at [10, 20, 0, 40, 100, 3] _ _ _ rfl)).mono ?_
    rintro e w11 ⟨v8, rfl, _, R11, G11⟩
    have z11 := G11.size; simp at z11
    have RT4 := Lib.hid ((RT3.out.new ((New.refl _).alloc (.cells ([10, 20, 0, 40, 100, 3].map (Value.int .i64)).toArray 3))).chg (Chg.of_grown G11 (Nat.le_refl a) (Nat.lt_succ_self a)) (by omega))
    have RR4 := Lib.hid ((RR3.out.new ((New.refl _).alloc (.cells ([10, 20, 0, 40, 100, 3].map (Value.int .i64)).toArray 3))).chg (Chg.of_grown G11 (Nat.le_refl a) (Nat.lt_succ_self a)) (by omega))
    replace G11 := Lib.hid (only_trans (only_alloc G9.out _) G11); replace R11 := Lib.hid R11
    have s0 := RT4.out.c 3 (by simp); have q0 := RT4.out.f 3 (by simp)
    simp only [List.getD_cons_zero, List.getD_cons_succ] at s0
    have RT5 : Hid (Row (w11.setCell ⟨w6.heap.size, 3, none⟩ (.int .i64 v8)) w6.heap.size [0, 0, v7, v8, v2, v3, v4, v5, v6]) := Lib.hid (RT4.out.set_ (k := 3) (by simp) v8)
    have RR5 := Lib.hid (RR4.out.far (p := ⟨w6.heap.size, 3, none⟩) (by simp; omega) (.int .i64 v8))
    have R12 := Lib.hid (R11.out.set (q := ⟨w6.heap.size, 3, none⟩) (by simp; omega) (.int .i64 v8))
    have G12 := Lib.hid (only_set G11.out (q := ⟨w6.heap.size, 3, none⟩) (by simp; omega) (.int .i64 v8))
    clear RT3 RR3 RT4 RR4 R9 G9 R11 G11
    go_upto_region 5 with fail
    generalize w11.setCell ⟨w6.heap.size, 3, none⟩ (.int .i64 v8) = wD at *
    clear s0 q0
    have t0 := RT5.out.c 0 (by simp); have r0 := RR5.out.c 0 (by simp); have f0 := RR5.out.f 0 (by simp)
    have t1 := RT5.out.c 1 (by simp); have r1 := RR5.out.c 1 (by simp); have f1 := RR5.out.f 1 (by simp)
    have t2 := RT5.out.c 2 (by simp); have r2 := RR5.out.c 2 (by simp); have f2 := RR5.out.f 2 (by simp)
    have t3 := RT5.out.c 3 (by simp); have r3 := RR5.out.c 3 (by simp); have f3 := RR5.out.f 3 (by simp)
    have t4 := RT5.out.c 4 (by simp); have r4 := RR5.out.c 4 (by simp); have f4 := RR5.out.f 4 (by simp)
    have t5 := RT5.out.c 5 (by simp); have r5 := RR5.out.c 5 (by simp); have f5 := RR5.out.f 5 (by simp)
    have t6 := RT5.out.c 6 (by simp); have r6 := RR5.out.c 6 (by simp); have f6 := RR5.out.f 6 (by simp)
    have t7 := RT5.out.c 7 (by simp); have r7 := RR5.out.c 7 (by simp); have f7 := RR5.out.f 7 (by simp)
    have t8 := RT5.out.c 8 (by simp); have r8 := RR5.out.c 8 (by simp); have f8 := RR5.out.f 8 (by simp)
    simp only [List.getD_cons_zero, List.getD_cons_succ] at t0 r0 t1 r1 t2 r2 t3 r3 t4 r4 t5 r5 t6 r6 t7 r7 t8 r8
    go_wp2
    refine bodyPost_ret (v := .agg #[.int .i64 0, .int .i64 0, .int .i64 v7, .int .i64 v8, .int .i64 v2, .int .i64 v3, .int .i64 v4, .int .i64 v5, .int .i64 v6]) (by simp [results, Tryd.results53, go_sem, r0, r1, r2, r3, r4, r5, r6, r7, r8]) rfl ?_
    exact ⟨_, _, _, _, _, _, _, _, rfl, ⟨p + 4 + 1 + 1 + 1 + 1, by omega, (((((((((R12.out.set (by first | omega | (simp; omega) | (simp; done)) _).set (by first | omega | (simp; omega) | (simp; done)) _).set (by first | omega | (simp; omega) | (simp; done)) _).set (by first | omega | (simp; omega) | (simp; done)) _).set (by first | omega | (simp; omega) | (simp; done)) _).set (by first | omega | (simp; omega) | (simp; done)) _).set (by first | omega | (simp; omega) | (simp; done)) _).set (by first | omega | (simp; omega) | (simp; done)) _).set (by first | omega | (simp; omega) | (simp; done)) _)⟩, (only_set (only_set (only_set (only_set (only_set (only_set (only_set (only_set (only_set G12.out (by first | omega | (simp; omega) | (simp; done)) _) (by first | omega | (simp; omega) | (simp; done)) _) (by first | omega | (simp; omega) | (simp; done)) _) (by first | omega | (simp; omega) | (simp; done)) _) (by first | omega | (simp; omega) | (simp; done)) _) (by first | omega | (simp; omega) | (simp; done)) _) (by first | omega | (simp; omega) | (simp; done)) _) (by first | omega | (simp; omega) | (simp; done)) _) (by first | omega | (simp; omega) | (simp; done)) _)⟩
  · have hvb : (v1 == 0) = false := by simpa using hv
    clear hv
    have t0 := RT.out.c 0 (by simp); have r0 := RR.out.c 0 (by simp); have f0 := RR.out.f 0 (by simp)
    have t1 := RT.out.c 1 (by simp); have r1 := RR.out.c 1 (by simp); have f1 := RR.out.f 1 (by simp)
    have t2 := RT.out.c 2 (by simp); have r2 := RR.out.c 2 (by simp); have f2 := RR.out.f 2 (by simp)
    have t3 := RT.out.c 3 (by simp); have r3 := RR.out.c 3 (by simp); have f3 := RR.out.f 3 (by simp)
    have t4 := RT.out.c 4 (by simp); have r4 := RR.out.c 4 (by simp); have f4 := RR.out.f 4 (by simp)
    have t5 := RT.out.c 5 (by simp); have r5 := RR.out.c 5 (by simp); have f5 := RR.out.f 5 (by simp)
    have t6 := RT.out.c 6 (by simp); have r6 := RR.out.c 6 (by simp); have f6 := RR.out.f 6 (by simp)
    have t7 := RT.out.c 7 (by simp); have r7 := RR.out.c 7 (by simp); have f7 := RR.out.f 7 (by simp)
    have t8 := RT.out.c 8 (by simp); have r8 := RR.out.c 8 (by simp); have f8 := RR.out.f 8 (by simp)
    simp only [List.getD_cons_zero, List.getD_cons_succ] at t0 r0 t1 r1 t2 r2 t3 r3 t4 r4 t5 r5 t6 r6 t7 r7 t8 r8
    go_wp2
    refine bodyPost_ret (v := .agg #[.int .i64 0, .int .i64 v1, .int .i64 0, .int .i64 0, .int .i64 v2, .int .i64 v3, .int .i64 v4, .int .i64 v5, .int .i64 v6]) (by simp [results, Tryd.results53, go_sem, r0, r1, r2, r3, r4, r5, r6, r7, r8]) rfl ?_
    exact ⟨_, _, _, _, _, _, _, _, rfl, ⟨p + 4 + 1 + 1, by omega, (((((((((R7.out.set (by first | omega | (simp; omega) | (simp; done)) _).set (by first | omega | (simp; omega) | (simp; done)) _).set (by first | omega | (simp; omega) | (simp; done)) _).set (by first | omega | (simp; omega) | (simp; done)) _).set (by first | omega | (simp; omega) | (simp; done)) _).set (by first | omega | (simp; omega) | (simp; done)) _).set (by first | omega | (simp; omega) | (simp; done)) _).set (by first | omega | (simp; omega) | (simp; done)) _).set (by first | omega | (simp; omega) | (simp; done)) _)⟩, (only_set (only_set (only_set (only_set (only_set (only_set (only_set (only_set (only_set G7.out (by first | omega | (simp; omega) | (simp; done)) _) (by first | omega | (simp; omega) | (simp; done)) _) (by first | omega | (simp; omega) | (simp; done)) _) (by first | omega | (simp; omega) | (simp; done)) _) (by first | omega | (simp; omega) | (simp; done)) _) (by first | omega | (simp; omega) | (simp; done)) _) (by first | omega | (simp; omega) | (simp; done)) _) (by first | omega | (simp; omega) | (simp; done)) _) (by first | omega | (simp; omega) | (simp; done)) _)⟩
end Go.Proofs.YtffggmjhaaehlaaDoor
