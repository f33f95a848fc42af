/- The drawn arguments of chapter 16: rows of rectangles. Condition: the code can be read. -/
import Derived.Test.YtckdokijmlpngaaRectK
import Derived.Test.YtckdokijmlpngaaDraw
import Derived.Test.YtckdokijmlpngaaDrawOf
import Derived.Test.YtckdokijmlpngaaRectH
import Derived.Deep.Cut
namespace Go.Proofs.Ytckdokijmlpngaa
open Go.RowKit

def DrawnR1 (w : World) (e : Ending) (w' : World) : Prop := ∃ (B : Option Addr) (n c : Nat) (ys : List Int), e = .returned (.slice B n c) ∧ Sts 4 w' B n ys ∧ n ≤ c ∧ n ≤ 7 ∧ New w w'
def DrawnR2 (w : World) (e : Ending) (w' : World) : Prop := ∃ (B : Option Addr) (n c : Nat) (xs : List Int) (C : Option Addr) (m d : Nat) (ys : List Int), e = .returned (.tuple #[.slice B n c, .slice C m d]) ∧ Sts 4 w' B n xs ∧ Sts 4 w' C m ys ∧ n ≤ c ∧ m ≤ d ∧ n ≤ 16 ∧ m ≤ 17 ∧ New w w'
set_option maxRecDepth 100000 in
set_option maxHeartbeats 4000000 in
theorem DrawChangedRects_any (A : Option Addr) (n c : Nat) (hn : n ≤ maxLen) (hnc : n ≤ c) (w : World) (hb : Bytes w A n) :
    Calls Try.prog 32 #[.slice A n c] w (DrawnR2 w) := by
  have HB := Lib.hid hb
  clear hb
  go_enter Try.func32, Try.ntmps32
  go_wp2_with fail
  refine (newReader_any A n c hn hnc _ HB.out).mono ?_
  rintro e w1 ⟨rfl, ⟨m, hm, R1⟩, N1, z1⟩
  have D1 := Lib.hid (show D2 w1 w1.heap.size w.heap.size A m 0 ((w1.alloc (.cells #[] 34)).alloc (.cells #[] 34)) (.slice (some ⟨w1.heap.size, 0, none⟩) 0 0) 0 [] (.slice (some ⟨w1.heap.size + 1, 0, none⟩) 0 0) 0 [] from
    ⟨(OwnRect.empty (lo := w1.heap.size) w1 (Nat.le_refl _)).alloc _, by have h := OwnRect.empty (lo := w1.heap.size) (w1.alloc (.cells #[] 34)) (by simp); simpa using h,
      fun g e1 e2 => by simp [Value.ownBlock] at e1 e2; omega, R1.new (by (repeat (first | exact New.refl _ | assumption | refine New.alloc ?_ _ | refine New.drew ?_ | refine New.drewN ?_ _ | refine New.setCell ?_ (by first | omega | (simp; omega) | (simp; done)) _ | refine New.trans ?_ (by assumption)))), only_alloc (only_alloc only_refl _) _, z1, Nat.le_refl _, by simp; omega⟩)
  replace N1 := Lib.hid N1
  clear R1
  go_wp2_with fail
  refine (one_any [4, 3, 6, 1, 0, 16] (by simp) (by simp) (w1.heap.size + 1 + 1) 6 w.heap.size A m 0 (by omega) hm _ (D1.out.alloc _).rd (by omega) (by simp) (lit_at [4, 3, 6, 1, 0, 16] ((w1.alloc (.cells #[] 34)).alloc (.cells #[] 34)) 3 (w1.heap.size + 1 + 1) (by simp))).mono ?_
  rintro e w4 ⟨k, rfl, hk, R4, G4⟩
  have kb : 0 ≤ k ∧ k ≤ 16 := by
    simp at hk
    omega
  have D4 := Lib.hid ((D1.out.alloc (.cells ([4, 3, 6, 1, 0, 16].map (Value.int .i64)).toArray 3)).call G4 R4)
  obtain ⟨j, rfl⟩ := Int.eq_ofNat_of_zero_le kb.1
  clear hk G4 R4 D1
  go_wp2
  go_loopw [5, 6, 7] (fun v1 v2 k wr => ∃ (i n q : Nat) (xs ys : List Int), i ≤ 16 ∧ k = .int .i64 (i : Int) ∧ n + i ≤ 16 ∧ q ≤ 1 + 40 * n ∧ Hid (D2 w1 w1.heap.size w.heap.size A m q wr v1 n xs v2 n ys)) (fun _ _ k _ => (intOf k).toNat)
  case atStart => exact ⟨j, 0, _, [], [], by omega, rfl, by omega, by omega, D4⟩
  case round =>
    clear D4
    obtain ⟨i, n, q, xs, ys, hi, rfl, hni, hq, HD⟩ := hrel
    by_cases h0 : 0 < i
    · have hi0 : (0 : Int) < (i : Int) := by omega
      have hi9 : (i : Int) ≤ 16 := by omega
      go_wp2_with fail
      refine (someRect_any w.heap.size A m q (by omega) hm _ HD.out.rd).mono ?_
      rintro e w5 ⟨x0, x1, x2, x3, rfl, -, -, -, -, ⟨q5, _, q5u, R5⟩, G5⟩
      have D5a := Lib.hid (HD.out.call G5 R5)
      have DX := Lib.hid (D5a.out.alloc (.cells #[.int .i64 x0, .int .i64 x1, .int .i64 x2, .int .i64 x3] 34))
      have RX := Lib.hid (Row.oneRect w5 x0 x1 x2 x3 34)
      have NE := Lib.hid (fun g (h : u5.ownBlock = some g) => D5a.out.o1.lt h)
      have NE2 := Lib.hid (fun g (h : u6.ownBlock = some g) => D5a.out.o2.lt h)
      have s5 := D5a.out.sz
      have s6 := D5a.out.lw
      have s7 := D5a.out.al
      clear G5 R5
      go_wp2_with (at_builtin; refine wp_appRect2 rfl _ _ rfl w1.heap.size _ n xs rfl (DX.out.alloc _).o1 (w5.heap.size + 1) x0 x1 x2 x3 rfl (by have h := Row.oneRect (w5.alloc (.cells #[.int .i64 x0, .int .i64 x1, .int .i64 x2, .int .i64 x3] 34)) x0 x1 x2 x3 34; simpa using h) (by omega) (by simp; omega) ?_; intro v6 w6 O6 G6 E6)
      have D6 := Lib.hid ((DX.out.alloc (.cells #[.int .i64 x0, .int .i64 x1, .int .i64 x2, .int .i64 x3] 34)).app1 G6 O6 E6)
      have RX6 := Lib.hid ((RX.out.new ((New.refl _).alloc (.cells #[.int .i64 x0, .int .i64 x1, .int .i64 x2, .int .i64 x3] 34))).keepR G6 (fun e => by have := NE.out _ e; omega))
      have z6 := RX6.out.lt
      have NE6 := Lib.hid (show v6.ownBlock ≠ some w5.heap.size from by
        rcases E6 with e | e
        · rw [e]; intro e2; have := NE.out _ e2; omega
        · rw [e]; intro e2; have := Option.some.inj e2; first | (simp at this; done) | (simp at this; omega))
      have NE7 := Lib.hid (show u6.ownBlock ≠ some w5.heap.size from fun e => by have := NE2.out _ e; omega)
      clear O6 G6 E6 D5a DX RX NE NE2
      go_wp2_with fail
      refine (pick_any 3 w.heap.size A m q5 (by omega) hm _ D6.out.rd).mono ?_
      rintro e w7 ⟨v, rfl, v0, v1', R7, G7⟩
      replace v1' := v1' (by omega)
      have D7 := Lib.hid (D6.out.call G7 R7)
      have RX7 := Lib.hid (RX6.out.keepR G7 (fun e => by have := Option.some.inj e; omega))
      have z7 := RX7.out.lt
      clear D6 RX6 G7 R7
      by_cases hv : v = 0
      · subst hv
        go_wp2_with fail
        refine (anyRect_any w.heap.size A m (q5 + 1) (by omega) hm _ D7.out.rd).mono ?_
        rintro e w8 ⟨y0, y1, y2, y3, rfl, -, -, -, -, ⟨q8, _, q8u, R8⟩, G8⟩
        have D8 := Lib.hid (D7.out.call G8 R8)
        have RX8 := Lib.hid (RX7.out.keepR G8 (fun e => by have := Option.some.inj e; omega))
        have z8 := RX8.out.lt
        clear D7 RX7 G8 R8
        obtain ⟨c0, c1, c2, c3⟩ := Row.allRect RX8.out
        have f0 := RX8.out.f 0 (by simp); have f1 := RX8.out.f 1 (by simp); have f2 := RX8.out.f 2 (by simp); have f3 := RX8.out.f 3 (by simp)
        have D9 := Lib.hid ((((D8.out.far NE6.out NE7.out (by omega) (by omega) 0 (.int .i64 y0)).far NE6.out NE7.out (by omega) (by omega) 1 (.int .i64 y1)).far NE6.out NE7.out (by omega) (by omega) 2 (.int .i64 y2)).far NE6.out NE7.out (by omega) (by omega) 3 (.int .i64 y3))
        have R9 := Lib.hid ((((RX8.out.set_ (k := 0) (by simp) y0).set_ (k := 1) (by simp) y1).set_ (k := 2) (by simp) y2).set_ (k := 3) (by simp) y3)
        have z9 := R9.out.lt
        go_upto_region 11 with fail
        generalize (((w8.setCell ⟨w5.heap.size, 0, none⟩ (.int .i64 y0)).setCell ⟨w5.heap.size, 1, none⟩ (.int .i64 y1)).setCell ⟨w5.heap.size, 2, none⟩ (.int .i64 y2)).setCell ⟨w5.heap.size, 3, none⟩ (.int .i64 y3) = W9 at D9 R9 z9 ⊢
        have R9 := Lib.hid (show Row W9 w5.heap.size [y0, y1, y2, y3] by simpa using R9.out)
        clear c0 c1 c2 c3 f0 f1 f2 f3
        obtain ⟨c0, c1, c2, c3⟩ := Row.allRect R9.out
        have s9 := D9.out.sz
        go_wp2_with (at_builtin; refine wp_appRect2 rfl _ _ rfl w1.heap.size _ n ys rfl (D9.out.alloc _).o2 W9.heap.size y0 y1 y2 y3 rfl (Row.oneRect _ _ _ _ _ _) (by omega) (by simp; omega) ?_; intro v10 w10 O10 G10 E10)
        have D10 := Lib.hid ((D9.out.alloc (.cells #[.int .i64 y0, .int .i64 y1, .int .i64 y2, .int .i64 y3] 34)).app2 G10 O10 E10)
        go_roundw
        case rel => exact ⟨i - 1, n + 1, q8, _, _, by omega, by go_num, by omega, by omega, D10⟩
        case measure => simp [intOf]; omega
      · have hvb : (v == 0) = false := by simpa using hv
        obtain ⟨c0, c1, c2, c3⟩ := Row.allRect RX7.out
        have s7 := D7.out.sz
        go_wp2_with (at_builtin; refine wp_appRect2 rfl _ _ rfl w1.heap.size _ n ys rfl (D7.out.alloc _).o2 w7.heap.size x0 x1 x2 x3 rfl (Row.oneRect _ _ _ _ _ _) (by omega) (by simp; omega) ?_; intro v8 w8 O8 G8 E8)
        have D8 := Lib.hid ((D7.out.alloc (.cells #[.int .i64 x0, .int .i64 x1, .int .i64 x2, .int .i64 x3] 34)).app2 G8 O8 E8)
        go_roundw
        case rel => exact ⟨i - 1, n + 1, q5 + 1, _, _, by omega, by go_num, by omega, by omega, D8⟩
        case measure => simp [intOf]; omega
    · obtain rfl : i = 0 := by omega
      have fin : ∀ (W : World) (v1 v2 : Value) (n1 n2 q : Nat) (xs ys : List Int), D2 w1 w1.heap.size w.heap.size A m q W v1 n1 xs v2 n2 ys → n1 ≤ 16 → n2 ≤ 17 → DrawnR2 w (.returned (.tuple #[v1, v2])) W := fun W v1 v2 n1 n2 q xs ys D h1 h2 => by
        obtain ⟨B, c1, rfl, hc1, Z1⟩ := D.o1.res
        obtain ⟨C, d1, rfl, hd1, Z2⟩ := D.o2.res
        exact ⟨B, n1, c1, xs, C, n2, d1, ys, rfl, Sts.of_res (m := 3) Z1 D.o1.2, Sts.of_res (m := 3) Z2 D.o2.2, hc1, hd1, h1, h2, new_only N1.out (Nat.le_refl _) D.gr⟩
      have FIN := Lib.hid fin
      clear fin
      go_wp2_with fail
      refine (pick_any 16 w.heap.size A m q (by omega) hm _ HD.out.rd).mono ?_
      rintro e w7 ⟨v, rfl, v0, v1', R7, G7⟩
      replace v1' := v1' (by omega)
      have D7 := Lib.hid (HD.out.call G7 R7)
      have s7 := D7.out.sz
      clear G7 R7
      by_cases hv : v = 0
      · subst hv
        go_wp2_with fail
        refine (anyRect_any w.heap.size A m (q + 1) (by omega) hm _ D7.out.rd).mono ?_
        rintro e w8 ⟨y0, y1, y2, y3, rfl, -, -, -, -, ⟨q8, _, q8u, R8⟩, G8⟩
        have D8 := Lib.hid (D7.out.call G8 R8)
        have s8 := D8.out.sz
        clear G8 R8
        go_wp2_with (at_builtin; refine wp_appRect2 rfl _ _ rfl w1.heap.size _ n ys rfl (D8.out.alloc _).o2 w8.heap.size y0 y1 y2 y3 rfl (Row.oneRect _ _ _ _ _ _) (by omega) (by simp; omega) ?_; intro v10 w10 O10 G10 E10)
        have D10 := Lib.hid ((D8.out.alloc (.cells #[.int .i64 y0, .int .i64 y1, .int .i64 y2, .int .i64 y3] 34)).app2 G10 O10 E10)
        go_ret2
        exact FIN.out _ _ _ _ _ _ _ _ D10.out (by omega) (by omega)
      · have hvb : (v == 0) = false := by simpa using hv
        go_wp2
        go_ret2
        exact FIN.out _ _ _ _ _ _ _ _ D7.out (by omega) (by omega)
set_option maxHeartbeats 1000000 in
theorem DrawDamageOf_any (A : Option Addr) (n c : Nat) (hn : n ≤ maxLen) (hnc : n ≤ c) (w : World) (hb : Bytes w A n) :
    Calls Try.prog 35 #[.slice A n c] w (DrawnR2 w) := by
  have DC := Lib.hid (DrawChangedRects_any A n c hn hnc w hb)
  clear hb
  go_enter Try.func35, Try.ntmps35
  go_wp2_with fail
  refine DC.out.mono ?_
  rintro e w' ⟨B, k, c1, xs, C, l, d1, ys, rfl, h1, h2, h3, h4, h5, h6, h7⟩
  go_wp2
  go_ret2
  exact ⟨B, k, c1, xs, C, l, d1, ys, rfl, h1, h2, h3, h4, h5, h6, h7⟩
set_option maxRecDepth 100000 in
set_option maxHeartbeats 4000000 in
theorem DrawPaintArea_any (A : Option Addr) (n c : Nat) (hn : n ≤ maxLen) (hnc : n ≤ c) (w : World) (hb : Bytes w A n) :
    Calls Try.prog 37 #[.slice A n c] w (DrawnR1 w) := by
  have HB := Lib.hid hb
  clear hb
  go_enter Try.func37, Try.ntmps37
  go_wp2_with fail
  refine (newReader_any A n c hn hnc _ HB.out).mono ?_
  rintro e w1 ⟨rfl, ⟨m, hm, R1⟩, N1, z1⟩
  have O1 := Lib.hid (OwnRect.empty (lo := w1.heap.size) w1 (Nat.le_refl _))
  replace R1 := Lib.hid R1; replace N1 := Lib.hid N1
  go_wp2_with fail
  refine (one_any [2, 3, 4, 1, 0, 6, 7] (by simp) (by simp) (w1.heap.size + 1) 7 w.heap.size A m 0 (by omega) hm _ (R1.out.new (by (repeat (first | exact New.refl _ | assumption | refine New.alloc ?_ _ | refine New.drew ?_ | refine New.drewN ?_ _ | refine New.setCell ?_ (by first | omega | (simp; omega) | (simp; done)) _ | refine New.trans ?_ (by assumption))))) (by omega) (by simp) (lit_at [2, 3, 4, 1, 0, 6, 7] (w1.alloc (.cells #[] 34)) 3 (w1.heap.size + 1) (by simp))).mono ?_
  rintro e w4 ⟨k, rfl, hk, R4, G4⟩
  have kb : 0 ≤ k ∧ k ≤ 7 := by
    simp at hk
    omega
  have z4 := G4.size; simp at z4
  have O4 := Lib.hid ((O1.out.alloc (.cells ([2, 3, 4, 1, 0, 6, 7].map (Value.int .i64)).toArray 3)).kept G4 (fun g e => by have := Option.some.inj e; omega))
  replace G4 := Lib.hid (only_trans (only_alloc (only_alloc (only_refl (w0 := w1)) _) _) G4); replace R4 := Lib.hid R4
  obtain ⟨j, rfl⟩ := Int.eq_ofNat_of_zero_le kb.1
  clear hk O1 R1
  go_wp2
  go_loopw [4, 5] (fun v k wr => ∃ (i n : Nat) (zs : List Int), i ≤ 7 ∧ k = .int .i64 i ∧ Hid (OwnRect w1.heap.size wr v n zs) ∧ n + i ≤ 7 ∧ Hid (∃ q, q ≤ 1 + 10 * n ∧ Rdr wr w.heap.size A m q) ∧ Hid (w1.grownBy wr (some w.heap.size)) ∧ w4.heap.size ≤ wr.heap.size) (fun _ k _ => (intOf k).toNat)
  case atStart => exact ⟨j, 0, [], by omega, rfl, O4, by omega, Lib.hid ⟨1, by omega, R4.out⟩, G4, Nat.le_refl _⟩
  case round =>
    obtain ⟨i, n, zs, hi, rfl, HO, hl, HR, HG, hz⟩ := hrel
    obtain ⟨q, hq, RR⟩ := HR.out
    replace RR := Lib.hid RR
    by_cases h0 : 0 < i
    · have hi0 : (0 : Int) < (i : Int) := by omega
      have hi9 : (i : Int) ≤ 7 := by omega
      go_wp2_with fail
      refine (someRect_any w.heap.size A m q (by omega) hm _ RR.out).mono ?_
      rintro e w5 ⟨x0, x1, x2, x3, rfl, -, -, -, -, ⟨q5, _, q5u, R5⟩, G5⟩
      have z5 := G5.size
      have O5 := Lib.hid (HO.out.kept G5 (fun g e => by have := Option.some.inj e; omega))
      replace G5 := Lib.hid (only_trans HG.out G5); replace R5 := Lib.hid R5
      go_wp2_with (at_builtin; refine wp_appRect rfl _ _ rfl w1.heap.size _ n zs rfl (O5.out.alloc _) w5.heap.size x0 x1 x2 x3 rfl (Row.oneRect _ _ _ _ _ _) (by omega) (by simp; omega) ?_; intro v9 w9 O9 G9; (have z9 := G9.size); (simp at z9))
      have R9 := Lib.hid ((R5.out.new ((New.refl _).alloc _)).ownRect G9 (O5.out.alloc _) (by omega))
      replace G9 := Lib.hid (only_ownRect (only_alloc G5.out _) G9 (O5.out.alloc _) (Nat.le_refl _))
      replace O9 := Lib.hid O9
      go_roundw
      case rel => exact ⟨i - 1, n + 1, _, by omega, by go_num, O9, by omega, Lib.hid ⟨q5, by omega, R9.out⟩, G9, by omega⟩
      case measure => simp [intOf]; omega
    · obtain rfl : i = 0 := by omega
      obtain ⟨B, c0, rfl, hcn, Z⟩ := HO.out.res
      have zl := HO.out.2
      have Z := Lib.hid Z
      have ZL := Lib.hid zl
      have nn : (0 : Int) ≤ (n : Int) := by omega
      have n9 : (n : Int) ≤ 7 := by omega
      clear zl
      rcases Nat.eq_zero_or_pos n with rfl | hn
      · go_wp2
        go_ret
        exact ⟨B, 0, c0, zs, rfl, Sts.of_res (m := 3) Z.out ZL.out, hcn, by omega, new_only N1.out (Nat.le_refl _) HG.out⟩
      · have hn1 : (0 : Int) < (n : Int) := by omega
        go_wp2_with fail
        refine (pick_any 16 w.heap.size A m q (by omega) hm _ RR.out).mono ?_
        rintro e w6 ⟨v, rfl, v0, v1, R6, G6⟩
        replace v1 := v1 (by omega)
        have z6 := G6.size
        have Z6 := Lib.hid (Z.out.chg (Chg.of_grown G6 (Nat.le_refl _) (Nat.lt_succ_self _)) (by omega))
        replace G6 := Lib.hid (only_trans HG.out G6); replace R6 := Lib.hid R6
        by_cases hv : v = 0
        · subst hv
          obtain ⟨g, rfl, gl, gh, RW⟩ := Z6.out.2 (by have := ZL.out; omega)
          replace RW := Lib.hid RW
          go_wp2_with fail
          refine (pick_any _ w.heap.size A m (q + 1) (by omega) hm _ R6.out).mono ?_
          rintro e w7 ⟨i, rfl, i0, i1, R7, G7⟩
          replace i1 := i1 (by omega)
          obtain ⟨i, rfl⟩ := Int.eq_ofNat_of_zero_le i0
          have z7 := G7.size
          have RW7 := Lib.hid (RW.out.chg (Chg.of_grown G7 (Nat.le_refl _) (Nat.lt_succ_self _)) (by omega))
          replace G7 := Lib.hid (only_trans G6.out G7); replace R7 := Lib.hid R7
          go_wp2_with fail
          refine (one_any [41, 40, -1] (by simp) (by simp) w7.heap.size 3 w.heap.size A m (q + 1 + 1) (by omega) hm _ (R7.out.new (by (repeat (first | exact New.refl _ | assumption | refine New.alloc ?_ _ | refine New.drew ?_ | refine New.drewN ?_ _ | refine New.setCell ?_ (by first | omega | (simp; omega) | (simp; done)) _ | refine New.trans ?_ (by assumption))))) (by omega) (by simp) (lit_at [41, 40, -1] _ _ _ rfl)).mono ?_
          rintro e w8 ⟨x0, rfl, hx0, R8, G8⟩
          have z8 := G8.size; simp at z8
          have RW8 := Lib.hid ((RW7.out.new ((New.refl _).alloc (.cells ([41, 40, -1].map (Value.int .i64)).toArray 3))).chg (Chg.of_grown G8 (Nat.le_refl _) (Nat.lt_succ_self _)) (by omega))
          replace G8 := Lib.hid (only_trans (only_alloc G7.out _) G8)
          clear hx0 R8
          have lz := ZL.out
          have il : i < n := by omega
          have f0 := RW8.out.f (i * 4) (by omega); have o0 := RW8.out.c (i * 4) (by omega)
          have f1 := RW8.out.f (i * 4 + 1) (by omega); have o1 := RW8.out.c (i * 4 + 1) (by omega)
          have f2 := RW8.out.f (i * 4 + 2) (by omega); have o2 := RW8.out.c (i * 4 + 2) (by omega)
          have f3 := RW8.out.f (i * 4 + 3) (by omega); have o3 := RW8.out.c (i * 4 + 3) (by omega)
          have S := Lib.hid ((((RW8.out.set_ (k := i * 4) (by omega) 0).set_ (k := i * 4 + 1) (by simp; omega) 0).set_ (k := i * 4 + 2) (by simp; omega) x0).set_ (k := i * 4 + 3) (by simp; omega) 3)
          generalize zs.getD (i * 4) 0 = q0 at o0
          generalize zs.getD (i * 4 + 1) 0 = q1 at o1
          generalize zs.getD (i * 4 + 2) 0 = q2 at o2
          generalize zs.getD (i * 4 + 3) 0 = q3 at o3
          clear lz
          go_wp2
          go_ret
          have GE := only_set (only_set (only_set (only_set G8.out (q := ⟨g, i * 4, none⟩) gl (.int .i64 0)) (q := ⟨g, i * 4 + 1, none⟩) gl (.int .i64 0)) (q := ⟨g, i * 4 + 2, none⟩) gl (.int .i64 x0)) (q := ⟨g, i * 4 + 3, none⟩) gl (.int .i64 3)
          exact ⟨_, n, c0, _, rfl, Sts.of_res (m := 3) (Res.of_row S.out (Nat.le_refl _)) (by simp; exact ZL.out), hcn, by omega, new_only N1.out (Nat.le_refl _) GE⟩
        · have hvb : (v == 0) = false := by simpa using hv
          clear hv
          go_wp2
          go_ret
          exact ⟨B, n, c0, zs, rfl, Sts.of_res (m := 3) Z6.out ZL.out, hcn, by omega, new_only N1.out (Nat.le_refl _) G6.out⟩
set_option maxHeartbeats 1000000 in
theorem DrawJoinPaint_any (A : Option Addr) (n c : Nat) (hn : n ≤ maxLen) (hnc : n ≤ c) (w : World) (hb : Bytes w A n) :
    Calls Try.prog 39 #[.slice A n c] w (DrawnR1 w) := by
  have DC := Lib.hid (DrawPaintArea_any A n c hn hnc w hb)
  clear hb
  go_enter Try.func39, Try.ntmps39
  go_wp2_with fail
  refine DC.out.mono ?_
  rintro e w' ⟨B, k, c1, xs, rfl, h1, h2, h3, h4⟩
  go_wp2
  go_ret
  exact ⟨B, k, c1, xs, rfl, h1, h2, h3, h4⟩
end Go.Proofs.Ytckdokijmlpngaa
