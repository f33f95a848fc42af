/- Drawn trees that are valid: what drawing one leaves. Condition: the code can be read. -/
import Derived.Test.YtffggmjhaaehlaaDoorDrawTr
namespace Go.Proofs.YtffggmjhaaehlaaDoor
open Go.RowKit

/-- What drawing a tree leaves. -/
def DrawnT (w : World) (a : Nat) (A : Option Addr) (m p : Nat) (e : Ending) (w' : World) : Prop :=
  ∃ (g n c : Nat) (ys : List Int), e = .returned (.slice (some ⟨g, 0, none⟩) n c) ∧ 1 ≤ n ∧ n ≤ 16 ∧ n ≤ c ∧ w.heap.size ≤ g ∧ Row w' g ys ∧ ys.length = n * 9 ∧ (∃ q, q ≤ p + 200 ∧ Rdr w' a A m q) ∧ w.grownBy w' (some a)
theorem OwnBox.sts {lo : Nat} {w : World} {A : Option Addr} {n c : Nat} {zs : List Int} (h : OwnBox lo w (.slice A n c) n zs) : Sts 9 w A n zs := by
  obtain ⟨A', c', e, _, R⟩ := h.res
  injection e with e1 e2 e3
  subst e1
  exact Sts.of_res R h.2
theorem OwnBox.one (lo : Nat) (w : World) (y0 y1 y2 y3 y4 y5 y6 y7 y8 : Int) (hl : lo ≤ w.heap.size) :
    OwnBox lo (w.alloc (.cells #[.int .i64 y0, .int .i64 y1, .int .i64 y2, .int .i64 y3, .int .i64 y4, .int .i64 y5, .int .i64 y6, .int .i64 y7, .int .i64 y8] 32)) (.slice (some ⟨w.heap.size, 0, none⟩) 1 1) 1 [y0, y1, y2, y3, y4, y5, y6, y7, y8] :=
  ⟨⟨rfl, .inr ⟨w.heap.size, 1, _, rfl, hl, heap_alloc_new w _, Nat.le_refl _, by decide, rfl, rfl⟩⟩, rfl⟩
set_option maxRecDepth 100000 in
set_option maxHeartbeats 4000000 in
theorem someTree_any (a : Nat) (A : Option Addr) (m p : Nat) (hp : p ≤ 800000) (hm : m ≤ 2000) (w : World) (h : Rdr w a A m p) :
    Calls Tryd.prog 43 #[.pointer (some ⟨a, 0, none⟩)] w (DrawnT w a A m p) := by
  have hlt : a < w.heap.size := World.block_lt_of_cell? w ⟨a, 1, none⟩ h.pos
  have HR := Lib.hid h
  clear h
  go_enter Tryd.func43, Tryd.ntmps43
  go_wp2_with fail
  refine (someBox_any a A m p (by omega) hm _ HR.out).mono ?_
  rintro e w1 ⟨y1, y2, y3, y4, y5, y6, y7, y8, rfl, ⟨q1, hq1, R1⟩, G1⟩
  have z1 := G1.size
  have RA := Row.oneBox w1 0 y1 y2 y3 y4 y5 y6 y7 y8 32
  have c0 := RA.c 0 (by simp); have f0 := RA.f 0 (by simp)
  simp only [List.getD_cons_zero] at c0
  have RB := Lib.hid (Row.oneBox w1 (-1) y1 y2 y3 y4 y5 y6 y7 y8 32)
  have R2 := Lib.hid (R1.new ((New.refl _).alloc (.cells #[.int .i64 (-1), .int .i64 y1, .int .i64 y2, .int .i64 y3, .int .i64 y4, .int .i64 y5, .int .i64 y6, .int .i64 y7, .int .i64 y8] 32)))
  have G2 := Lib.hid (only_alloc G1 (.cells #[.int .i64 (-1), .int .i64 y1, .int .i64 y2, .int .i64 y3, .int .i64 y4, .int .i64 y5, .int .i64 y6, .int .i64 y7, .int .i64 y8] 32))
  clear RA R1 G1
  go_upto_region 3 with fail
  generalize w1.alloc (.cells #[.int .i64 (-1), .int .i64 y1, .int .i64 y2, .int .i64 y3, .int .i64 y4, .int .i64 y5, .int .i64 y6, .int .i64 y7, .int .i64 y8] 32) = wB at *
  clear c0 f0
  have zB : w1.heap.size < wB.heap.size := RB.out.lt
  by_cases hv : y1 = 0
  · subst hv
    have k0 := RB.out.c 1 (by simp)
    simp only [List.getD_cons_zero, List.getD_cons_succ] at k0
    go_wp2_with fail
    refine (pick_any 8 a A m q1 (by omega) hm _ R2.out).mono ?_
    rintro e w2 ⟨v, rfl, v0, v1, R3, G3⟩
    have z2 := G3.size
    have RB := Lib.hid (RB.out.chg (Chg.of_grown G3 (Nat.le_refl a) (Nat.lt_succ_self a)) (by omega))
    replace G3 := Lib.hid (only_trans G2.out G3); replace R3 := Lib.hid R3
    clear k0 R2 G2
    by_cases hv : 0 < v
    · have k1 := RB.out.c 1 (by simp); have f1 := RB.out.f 1 (by simp); have k2 := RB.out.c 2 (by simp); have f2 := RB.out.f 2 (by simp); have k3 := RB.out.c 3 (by simp); have f3 := RB.out.f 3 (by simp)
      simp only [List.getD_cons_zero, List.getD_cons_succ] at k1 k2 k3
      go_wp2_with fail
      refine (pick_any 3 a A m (q1 + 1) (by omega) hm _ R3.out).mono ?_
      rintro e w3 ⟨u, rfl, u0, u1, R4, G4⟩
      replace u1 := u1 (by omega)
      have z3 := G4.size
      have RC := RB.out.chg (Chg.of_grown G4 (Nat.le_refl a) (Nat.lt_succ_self a)) (by omega)
      have k1 := RC.c 1 (by simp); have f1 := RC.f 1 (by simp); have k2 := RC.c 2 (by simp); have f2 := RC.f 2 (by simp); have k3 := RC.c 3 (by simp); have f3 := RC.f 3 (by simp)
      simp only [List.getD_cons_zero, List.getD_cons_succ] at k1 k2 k3
      have RB : Hid (Row (((w3.setCell ⟨w1.heap.size, 1, none⟩ (.int .i64 (1 + u))).setCell ⟨w1.heap.size, 2, none⟩ (.int .i64 0)).setCell ⟨w1.heap.size, 3, none⟩ (.int .i64 0)) w1.heap.size [-1, 1 + u, 0, 0, y4, y5, y6, y7, y8]) := Lib.hid (((RC.set_ (k := 1) (by simp) (1 + u)).set_ (k := 2) (by simp) 0).set_ (k := 3) (by simp) 0)
      have R5 := Lib.hid (((R4.set (q := ⟨w1.heap.size, 1, none⟩) (by simp; omega) (.int .i64 (1 + u))).set (q := ⟨w1.heap.size, 2, none⟩) (by simp; omega) (.int .i64 0)).set (q := ⟨w1.heap.size, 3, none⟩) (by simp; omega) (.int .i64 0))
      have G5 := Lib.hid (only_set (only_set (only_set (only_trans G3.out G4) (q := ⟨w1.heap.size, 1, none⟩) (by simp; omega) (.int .i64 (1 + u))) (q := ⟨w1.heap.size, 2, none⟩) (by simp; omega) (.int .i64 0)) (q := ⟨w1.heap.size, 3, none⟩) (by simp; omega) (.int .i64 0))
      have z5 : (((w3.setCell ⟨w1.heap.size, 1, none⟩ (.int .i64 (1 + u))).setCell ⟨w1.heap.size, 2, none⟩ (.int .i64 0)).setCell ⟨w1.heap.size, 3, none⟩ (.int .i64 0)).heap.size ≥ w3.heap.size := by simp [World.setCell]
      clear RC R3 G3 R4 G4
      go_upto_region 7 with fail
      generalize ((w3.setCell ⟨w1.heap.size, 1, none⟩ (.int .i64 (1 + u))).setCell ⟨w1.heap.size, 2, none⟩ (.int .i64 0)).setCell ⟨w1.heap.size, 3, none⟩ (.int .i64 0) = wC at *
      clear k1 k2 k3 f1 f2 f3
      have t0 := RB.out.c 0 (by simp)
      have t1 := RB.out.c 1 (by simp)
      have t2 := RB.out.c 2 (by simp)
      have t3 := RB.out.c 3 (by simp)
      have t4 := RB.out.c 4 (by simp)
      have t5 := RB.out.c 5 (by simp)
      have t6 := RB.out.c 6 (by simp)
      have t7 := RB.out.c 7 (by simp)
      have t8 := RB.out.c 8 (by simp)
      simp only [List.getD_cons_zero, List.getD_cons_succ] at t0 t1 t2 t3 t4 t5 t6 t7 t8
      have OB := Lib.hid (OwnBox.one w.heap.size wC (-1) (1 + u) 0 0 y4 y5 y6 y7 y8 (by omega))
      go_wp2_with fail
      refine (one_any [5, 8, 3, 12, 1, 0, 20] (by simp) (by simp) (wC.heap.size + 1) 7 a A m (q1 + 1 + 1) (by omega) hm _ (R5.out.new (by (repeat (first | exact New.refl _ | assumption | refine New.alloc ?_ _ | refine New.drew ?_ | refine New.drewN ?_ _ | refine New.setCell ?_ (by first | omega | (simp; omega) | (simp; done)) _ | refine New.trans ?_ (by assumption))))) (by omega) (by simp) (lit_at [5, 8, 3, 12, 1, 0, 20] (wC.alloc (.cells #[.int .i64 (-1), .int .i64 (1 + u), .int .i64 0, .int .i64 0, .int .i64 y4, .int .i64 y5, .int .i64 y6, .int .i64 y7, .int .i64 y8] 32)) 3 (wC.heap.size + 1) (by simp))).mono ?_
      rintro e w4 ⟨k, rfl, hk, R4, G4⟩
      have kb : 0 ≤ k ∧ k ≤ 20 := by
        simp at hk
        omega
      have z4 := G4.size; simp at z4
      have O4 := Lib.hid ((OB.out.alloc (.cells ([5, 8, 3, 12, 1, 0, 20].map (Value.int .i64)).toArray 3)).kept G4 (fun g e => by have := Option.some.inj e; omega))
      replace G4 := Lib.hid (only_trans (only_alloc (only_alloc G5.out _) _) G4); replace R4 := Lib.hid R4
      obtain ⟨j, rfl⟩ := Int.eq_ofNat_of_zero_le kb.1
      clear hk OB RB t0 t1 t2 t3 t4 t5 t6 t7 t8
      go_wp2
      go_loopw [4, 5] (fun v k wr => ∃ (i n : Nat) (zs : List Int), i ≤ 20 ∧ k = .int .i64 i ∧ Hid (OwnBox w.heap.size wr v n zs) ∧ 1 ≤ n ∧ n ≤ 16 ∧ Hid (∃ q, q + 9 * i ≤ p + 195 ∧ Rdr wr a A m q) ∧ Hid (w.grownBy wr (some a))) (fun _ k _ => (intOf k).toNat)
      case atStart => exact ⟨j, 1, _, by omega, rfl, O4, by omega, by omega, Lib.hid ⟨(q1 + 1 + 1) + 1, by omega, R4.out⟩, G4⟩
      case round =>
        clear R4 G4 O4 z4
        obtain ⟨i, n, zs, hi, rfl, HO, h1, h16, HR, HG⟩ := hrel
        obtain ⟨q, hq, RR⟩ := HR.out
        rcases HO.out.form with ⟨_, h0, _⟩ | ⟨g, c, rfl, hg, RW, hnc, _⟩
        · omega
        have zl := HO.out.2
        replace RR := Lib.hid RR
        have n0 : (1 : Int) ≤ (n : Int) := by omega
        have n16 : (n : Int) ≤ 16 := by omega
        by_cases h0 : 0 < i
        · have hi0 : (0 : Int) < (i : Int) := by omega
          have hi20 : (i : Int) ≤ 20 := by omega
          clear RW zl hg
          go_wp2_with fail
          refine (pick_any _ a A m q (by omega) hm _ RR.out).mono ?_
          rintro e w5 ⟨v5, rfl, _, _, R5, G5⟩
          have z5 := G5.size
          have O5 := Lib.hid (HO.out.kept G5 (fun g e => by have := Option.some.inj e; omega))
          replace G5 := Lib.hid (only_trans HG.out G5); replace R5 := Lib.hid R5
          go_wp2_with fail
          refine (someBox_any a A m (q + 1) (by omega) hm _ R5.out).mono ?_
          rintro e w6 ⟨u1, u2, u3, u4, u5, u6, u7, u8, rfl, ⟨q6, hq6, R6⟩, G6⟩
          have z6 := G6.size
          have O6 := Lib.hid (O5.out.kept G6 (fun g e => by have := Option.some.inj e; omega))
          replace G6 := Lib.hid (only_trans G5.out G6); replace R6 := Lib.hid R6
          have zw := G6.out.size
          go_wp2_with fail
          refine (SAddBox_any (some ⟨g, 0, none⟩) n c zs v5 0 u1 u2 u3 u4 u5 u6 u7 u8 (by omega) hnc _ O6.out.sts).mono ?_
          rintro e w7 ⟨N7, ⟨_, rfl⟩ | ⟨hok, v, rfl, O7⟩⟩
          · have O7 := Lib.hid (O6.out.new N7); have R7 := Lib.hid (R6.out.new N7); have G7 := Lib.hid (only_new G6.out N7)
            clear N7
            go_wp2
            go_roundw
            case rel => exact ⟨i - 1, n, zs, by omega, by go_num, O7, h1, h16, Lib.hid ⟨q6, by omega, R7.out⟩, G7⟩
            case measure => simp [intOf]; omega
          · have nv : n + 1 ≤ 16 := by
              unfold addOk at hok
              rw [Bool.and_eq_true] at hok
              exact (vtB_iff.1 hok.2).1.2
            have O7 := Lib.hid (O7.weak zw); have R7 := Lib.hid (R6.out.new N7); have G7 := Lib.hid (only_new G6.out N7)
            clear N7 hok
            go_wp2
            go_roundw
            case rel => exact ⟨i - 1, n + 1, _, by omega, by go_num, O7, by omega, nv, Lib.hid ⟨q6, by omega, R7.out⟩, G7⟩
            case measure => simp [intOf]; omega
        · obtain rfl : i = 0 := by omega
          have RW := Lib.hid RW
          go_wp2
          go_ret
          exact ⟨g, n, c, zs, rfl, h1, h16, hnc, hg, RW.out, zl, ⟨q, by omega, RR.out⟩, HG.out⟩
    · have v00 : decide (v > 0) = false := decide_eq_false hv
      have v000 : decide (0 < v) = false := decide_eq_false hv
      go_upto_region 7 with fail
      have t0 := RB.out.c 0 (by simp)
      have t1 := RB.out.c 1 (by simp)
      have t2 := RB.out.c 2 (by simp)
      have t3 := RB.out.c 3 (by simp)
      have t4 := RB.out.c 4 (by simp)
      have t5 := RB.out.c 5 (by simp)
      have t6 := RB.out.c 6 (by simp)
      have t7 := RB.out.c 7 (by simp)
      have t8 := RB.out.c 8 (by simp)
      simp only [List.getD_cons_zero, List.getD_cons_succ] at t0 t1 t2 t3 t4 t5 t6 t7 t8
      have OB := Lib.hid (OwnBox.one w.heap.size w2 (-1) 0 y2 y3 y4 y5 y6 y7 y8 (by omega))
      go_wp2_with fail
      refine (one_any [5, 8, 3, 12, 1, 0, 20] (by simp) (by simp) (w2.heap.size + 1) 7 a A m (q1 + 1) (by omega) hm _ (R3.out.new (by (repeat (first | exact New.refl _ | assumption | refine New.alloc ?_ _ | refine New.drew ?_ | refine New.drewN ?_ _ | refine New.setCell ?_ (by first | omega | (simp; omega) | (simp; done)) _ | refine New.trans ?_ (by assumption))))) (by omega) (by simp) (lit_at [5, 8, 3, 12, 1, 0, 20] (w2.alloc (.cells #[.int .i64 (-1), .int .i64 0, .int .i64 y2, .int .i64 y3, .int .i64 y4, .int .i64 y5, .int .i64 y6, .int .i64 y7, .int .i64 y8] 32)) 3 (w2.heap.size + 1) (by simp))).mono ?_
      rintro e w4 ⟨k, rfl, hk, R4, G4⟩
      have kb : 0 ≤ k ∧ k ≤ 20 := by
        simp at hk
        omega
      have z4 := G4.size; simp at z4
      have O4 := Lib.hid ((OB.out.alloc (.cells ([5, 8, 3, 12, 1, 0, 20].map (Value.int .i64)).toArray 3)).kept G4 (fun g e => by have := Option.some.inj e; omega))
      replace G4 := Lib.hid (only_trans (only_alloc (only_alloc G3.out _) _) G4); replace R4 := Lib.hid R4
      obtain ⟨j, rfl⟩ := Int.eq_ofNat_of_zero_le kb.1
      clear hk OB RB t0 t1 t2 t3 t4 t5 t6 t7 t8
      go_wp2
      go_loopw [4, 5] (fun v k wr => ∃ (i n : Nat) (zs : List Int), i ≤ 20 ∧ k = .int .i64 i ∧ Hid (OwnBox w.heap.size wr v n zs) ∧ 1 ≤ n ∧ n ≤ 16 ∧ Hid (∃ q, q + 9 * i ≤ p + 195 ∧ Rdr wr a A m q) ∧ Hid (w.grownBy wr (some a))) (fun _ k _ => (intOf k).toNat)
      case atStart => exact ⟨j, 1, _, by omega, rfl, O4, by omega, by omega, Lib.hid ⟨(q1 + 1) + 1, by omega, R4.out⟩, G4⟩
      case round =>
        clear R4 G4 O4 z4
        obtain ⟨i, n, zs, hi, rfl, HO, h1, h16, HR, HG⟩ := hrel
        obtain ⟨q, hq, RR⟩ := HR.out
        rcases HO.out.form with ⟨_, h0, _⟩ | ⟨g, c, rfl, hg, RW, hnc, _⟩
        · omega
        have zl := HO.out.2
        replace RR := Lib.hid RR
        have n0 : (1 : Int) ≤ (n : Int) := by omega
        have n16 : (n : Int) ≤ 16 := by omega
        by_cases h0 : 0 < i
        · have hi0 : (0 : Int) < (i : Int) := by omega
          have hi20 : (i : Int) ≤ 20 := by omega
          clear RW zl hg
          go_wp2_with fail
          refine (pick_any _ a A m q (by omega) hm _ RR.out).mono ?_
          rintro e w5 ⟨v5, rfl, _, _, R5, G5⟩
          have z5 := G5.size
          have O5 := Lib.hid (HO.out.kept G5 (fun g e => by have := Option.some.inj e; omega))
          replace G5 := Lib.hid (only_trans HG.out G5); replace R5 := Lib.hid R5
          go_wp2_with fail
          refine (someBox_any a A m (q + 1) (by omega) hm _ R5.out).mono ?_
          rintro e w6 ⟨u1, u2, u3, u4, u5, u6, u7, u8, rfl, ⟨q6, hq6, R6⟩, G6⟩
          have z6 := G6.size
          have O6 := Lib.hid (O5.out.kept G6 (fun g e => by have := Option.some.inj e; omega))
          replace G6 := Lib.hid (only_trans G5.out G6); replace R6 := Lib.hid R6
          have zw := G6.out.size
          go_wp2_with fail
          refine (SAddBox_any (some ⟨g, 0, none⟩) n c zs v5 0 u1 u2 u3 u4 u5 u6 u7 u8 (by omega) hnc _ O6.out.sts).mono ?_
          rintro e w7 ⟨N7, ⟨_, rfl⟩ | ⟨hok, v, rfl, O7⟩⟩
          · have O7 := Lib.hid (O6.out.new N7); have R7 := Lib.hid (R6.out.new N7); have G7 := Lib.hid (only_new G6.out N7)
            clear N7
            go_wp2
            go_roundw
            case rel => exact ⟨i - 1, n, zs, by omega, by go_num, O7, h1, h16, Lib.hid ⟨q6, by omega, R7.out⟩, G7⟩
            case measure => simp [intOf]; omega
          · have nv : n + 1 ≤ 16 := by
              unfold addOk at hok
              rw [Bool.and_eq_true] at hok
              exact (vtB_iff.1 hok.2).1.2
            have O7 := Lib.hid (O7.weak zw); have R7 := Lib.hid (R6.out.new N7); have G7 := Lib.hid (only_new G6.out N7)
            clear N7 hok
            go_wp2
            go_roundw
            case rel => exact ⟨i - 1, n + 1, _, by omega, by go_num, O7, by omega, nv, Lib.hid ⟨q6, by omega, R7.out⟩, G7⟩
            case measure => simp [intOf]; omega
        · obtain rfl : i = 0 := by omega
          have RW := Lib.hid RW
          go_wp2
          go_ret
          exact ⟨g, n, c, zs, rfl, h1, h16, hnc, hg, RW.out, zl, ⟨q, by omega, RR.out⟩, HG.out⟩
  · have hvb : (y1 == 0) = false := by simpa using hv
    clear hv
    have k0 := RB.out.c 1 (by simp)
    simp only [List.getD_cons_zero, List.getD_cons_succ] at k0
    go_upto_region 7 with fail
    have t0 := RB.out.c 0 (by simp)
    have t1 := RB.out.c 1 (by simp)
    have t2 := RB.out.c 2 (by simp)
    have t3 := RB.out.c 3 (by simp)
    have t4 := RB.out.c 4 (by simp)
    have t5 := RB.out.c 5 (by simp)
    have t6 := RB.out.c 6 (by simp)
    have t7 := RB.out.c 7 (by simp)
    have t8 := RB.out.c 8 (by simp)
    simp only [List.getD_cons_zero, List.getD_cons_succ] at t0 t1 t2 t3 t4 t5 t6 t7 t8
    have OB := Lib.hid (OwnBox.one w.heap.size wB (-1) y1 y2 y3 y4 y5 y6 y7 y8 (by omega))
    go_wp2_with fail
    refine (one_any [5, 8, 3, 12, 1, 0, 20] (by simp) (by simp) (wB.heap.size + 1) 7 a A m q1 (by omega) hm _ (R2.out.new (by (repeat (first | exact New.refl _ | assumption | refine New.alloc ?_ _ | refine New.drew ?_ | refine New.drewN ?_ _ | refine New.setCell ?_ (by first | omega | (simp; omega) | (simp; done)) _ | refine New.trans ?_ (by assumption))))) (by omega) (by simp) (lit_at [5, 8, 3, 12, 1, 0, 20] (wB.alloc (.cells #[.int .i64 (-1), .int .i64 y1, .int .i64 y2, .int .i64 y3, .int .i64 y4, .int .i64 y5, .int .i64 y6, .int .i64 y7, .int .i64 y8] 32)) 3 (wB.heap.size + 1) (by simp))).mono ?_
    rintro e w4 ⟨k, rfl, hk, R4, G4⟩
    have kb : 0 ≤ k ∧ k ≤ 20 := by
      simp at hk
      omega
    have z4 := G4.size; simp at z4
    have O4 := Lib.hid ((OB.out.alloc (.cells ([5, 8, 3, 12, 1, 0, 20].map (Value.int .i64)).toArray 3)).kept G4 (fun g e => by have := Option.some.inj e; omega))
    replace G4 := Lib.hid (only_trans (only_alloc (only_alloc G2.out _) _) G4); replace R4 := Lib.hid R4
    obtain ⟨j, rfl⟩ := Int.eq_ofNat_of_zero_le kb.1
    clear hk OB RB t0 t1 t2 t3 t4 t5 t6 t7 t8
    go_wp2
    go_loopw [4, 5] (fun v k wr => ∃ (i n : Nat) (zs : List Int), i ≤ 20 ∧ k = .int .i64 i ∧ Hid (OwnBox w.heap.size wr v n zs) ∧ 1 ≤ n ∧ n ≤ 16 ∧ Hid (∃ q, q + 9 * i ≤ p + 195 ∧ Rdr wr a A m q) ∧ Hid (w.grownBy wr (some a))) (fun _ k _ => (intOf k).toNat)
    case atStart => exact ⟨j, 1, _, by omega, rfl, O4, by omega, by omega, Lib.hid ⟨q1 + 1, by omega, R4.out⟩, G4⟩
    case round =>
      clear R4 G4 O4 z4
      obtain ⟨i, n, zs, hi, rfl, HO, h1, h16, HR, HG⟩ := hrel
      obtain ⟨q, hq, RR⟩ := HR.out
      rcases HO.out.form with ⟨_, h0, _⟩ | ⟨g, c, rfl, hg, RW, hnc, _⟩
      · omega
      have zl := HO.out.2
      replace RR := Lib.hid RR
      have n0 : (1 : Int) ≤ (n : Int) := by omega
      have n16 : (n : Int) ≤ 16 := by omega
      by_cases h0 : 0 < i
      · have hi0 : (0 : Int) < (i : Int) := by omega
        have hi20 : (i : Int) ≤ 20 := by omega
        clear RW zl hg
        go_wp2_with fail
        refine (pick_any _ a A m q (by omega) hm _ RR.out).mono ?_
        rintro e w5 ⟨v5, rfl, _, _, R5, G5⟩
        have z5 := G5.size
        have O5 := Lib.hid (HO.out.kept G5 (fun g e => by have := Option.some.inj e; omega))
        replace G5 := Lib.hid (only_trans HG.out G5); replace R5 := Lib.hid R5
        go_wp2_with fail
        refine (someBox_any a A m (q + 1) (by omega) hm _ R5.out).mono ?_
        rintro e w6 ⟨u1, u2, u3, u4, u5, u6, u7, u8, rfl, ⟨q6, hq6, R6⟩, G6⟩
        have z6 := G6.size
        have O6 := Lib.hid (O5.out.kept G6 (fun g e => by have := Option.some.inj e; omega))
        replace G6 := Lib.hid (only_trans G5.out G6); replace R6 := Lib.hid R6
        have zw := G6.out.size
        go_wp2_with fail
        refine (SAddBox_any (some ⟨g, 0, none⟩) n c zs v5 0 u1 u2 u3 u4 u5 u6 u7 u8 (by omega) hnc _ O6.out.sts).mono ?_
        rintro e w7 ⟨N7, ⟨_, rfl⟩ | ⟨hok, v, rfl, O7⟩⟩
        · have O7 := Lib.hid (O6.out.new N7); have R7 := Lib.hid (R6.out.new N7); have G7 := Lib.hid (only_new G6.out N7)
          clear N7
          go_wp2
          go_roundw
          case rel => exact ⟨i - 1, n, zs, by omega, by go_num, O7, h1, h16, Lib.hid ⟨q6, by omega, R7.out⟩, G7⟩
          case measure => simp [intOf]; omega
        · have nv : n + 1 ≤ 16 := by
            unfold addOk at hok
            rw [Bool.and_eq_true] at hok
            exact (vtB_iff.1 hok.2).1.2
          have O7 := Lib.hid (O7.weak zw); have R7 := Lib.hid (R6.out.new N7); have G7 := Lib.hid (only_new G6.out N7)
          clear N7 hok
          go_wp2
          go_roundw
          case rel => exact ⟨i - 1, n + 1, _, by omega, by go_num, O7, by omega, nv, Lib.hid ⟨q6, by omega, R7.out⟩, G7⟩
          case measure => simp [intOf]; omega
      · obtain rfl : i = 0 := by omega
        have RW := Lib.hid RW
        go_wp2
        go_ret
        exact ⟨g, n, c, zs, rfl, h1, h16, hnc, hg, RW.out, zl, ⟨q, by omega, RR.out⟩, HG.out⟩
end Go.Proofs.YtffggmjhaaehlaaDoor
