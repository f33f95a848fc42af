/- Drawn queues of tasks: valid ones, and such as may have one task too many. Condition: the code can be read. -/
import Derived.Test.YtpkombjmbpgdnaaPshS
import Derived.Test.YtpkombjmbpgdnaaDrawOf
namespace Go.Proofs.Ytpkombjmbpgdnaa
open Go.RowKit

theorem OwnTask.weak {lo lo' n : Nat} {w : World} {v : Value} {zs : List Int} (h : OwnTask lo' w v n zs) (hl : lo ≤ lo') : OwnTask lo w v n zs :=
  ⟨⟨h.1.1, h.1.2.imp id (fun ⟨g, cap, cur, a1, a2, a3⟩ => ⟨g, cap, cur, a1, Nat.le_trans hl a2, a3⟩)⟩, h.2⟩
/-- What drawing a valid queue leaves. -/
def DrawnQ (w : World) (a : Nat) (A : Option Addr) (m p : Nat) (e : Ending) (w' : World) : Prop :=
  ∃ (v : Value) (n : Nat) (zs : List Int), e = .returned v ∧ OwnTask w.heap.size w' v n zs ∧ vtk n zs = true ∧ (∃ q, q ≤ p + 60 ∧ Rdr w' a A m q) ∧ w.grownBy w' (some a)
theorem vtk_zero (zs : List Int) : vtk 0 zs = true := by unfold vtk upB; simp
set_option maxRecDepth 100000 in
set_option maxHeartbeats 4000000 in
theorem someTasks_any (a : Nat) (A : Option Addr) (m p : Nat) (hp : p ≤ 800000) (hm : m ≤ 2000) (w : World) (h : Rdr w a A m p) :
    Calls Try.prog 23 #[.pointer (some ⟨a, 0, none⟩)] w (DrawnQ w a A m p) := by
  have hlt : a < w.heap.size := World.block_lt_of_cell? w ⟨a, 1, none⟩ h.pos
  have HR := Lib.hid h
  clear h
  go_enter Try.func23, Try.ntmps23
  go_wp2_with fail
  refine (one_any [4, 6, 8, 2, 1, 0, 12] (by simp) (by simp) (w.heap.size + 1) 7 a A m p (by omega) hm _ (HR.out.new (by (repeat (first | exact New.refl _ | assumption | refine New.alloc ?_ _ | refine New.drew ?_ | refine New.drewN ?_ _ | refine New.setCell ?_ (by first | omega | (simp; omega) | (simp; done)) _ | refine New.trans ?_ (by assumption))))) (by omega) (by simp) (lit_at [4, 6, 8, 2, 1, 0, 12] (w.alloc (.cells #[] 30)) 3 (w.heap.size + 1) (by simp))).mono ?_
  rintro e w4 ⟨k, rfl, hk, R4, G4⟩
  have kb : 0 ≤ k ∧ k ≤ 12 := by
    simp at hk
    omega
  have z4 := G4.size; simp at z4
  have O4 := Lib.hid (((OwnTask.empty (lo := w.heap.size) w (Nat.le_refl _)).alloc (.cells ([4, 6, 8, 2, 1, 0, 12].map (Value.int .i64)).toArray 3)).kept G4 (fun g e => by have := Option.some.inj e; omega))
  replace G4 := Lib.hid (only_trans (only_alloc (only_alloc only_refl _) _) G4); replace R4 := Lib.hid R4
  obtain ⟨j, rfl⟩ := Int.eq_ofNat_of_zero_le kb.1
  clear hk
  go_wp2
  go_loopw [3, 4] (fun v k wr => ∃ (i n : Nat) (zs : List Int), i ≤ 12 ∧ k = .int .i64 i ∧ Hid (OwnTask w.heap.size wr v n zs) ∧ Hid (vtk n zs = true) ∧ Hid (∃ q, q + 3 * i ≤ p + 50 ∧ Rdr wr a A m q) ∧ Hid (w.grownBy wr (some a))) (fun _ k _ => (intOf k).toNat)
  case atStart => exact ⟨j, 0, [], by omega, rfl, O4, Lib.hid (vtk_zero _), Lib.hid ⟨p + 1, by omega, R4.out⟩, G4⟩
  case round =>
    clear R4 G4 O4 z4
    obtain ⟨i, n, zs, hi, rfl, HO, HV, HR, HG⟩ := hrel
    obtain ⟨q, hq, RR⟩ := HR.out
    replace RR := Lib.hid RR
    have wl : w.heap.size ≤ wr.heap.size := HG.out.size
    obtain ⟨B, c, e3, hcn, Z⟩ := HO.out.res
    replace Z := Lib.hid Z
    have n10 := (vtk_at HV.out).1
    have n0 : (0 : Int) ≤ (n : Int) := by omega
    have n9 : (n : Int) ≤ 10 := by omega
    by_cases h0 : 0 < i
    · have hi0 : (0 : Int) < (i : Int) := by omega
      have hi9 : (i : Int) ≤ 12 := by omega
      subst e3
      go_wp2_with fail
      refine (pick_any 30 a A m q (by omega) hm _ RR.out).mono ?_
      rintro e w5 ⟨d, rfl, d0, d1, R5, G5⟩
      replace d1 := d1 (by omega)
      have z5 := G5.size
      have O5 := Lib.hid (HO.out.kept G5 (fun g e => by have := Option.some.inj e; omega))
      replace G5 := Lib.hid (only_trans HG.out G5); replace R5 := Lib.hid R5
      go_wp2_with fail
      refine (one_any [5, 0, 10, 50, 20, 7] (by simp) (by simp) w5.heap.size 6 a A m (q + 1) (by omega) hm _ (R5.out.new (by (repeat (first | exact New.refl _ | assumption | refine New.alloc ?_ _ | refine New.drew ?_ | refine New.drewN ?_ _ | refine New.setCell ?_ (by first | omega | (simp; omega) | (simp; done)) _ | refine New.trans ?_ (by assumption))))) (by omega) (by simp) (lit_at [5, 0, 10, 50, 20, 7] _ _ _ rfl)).mono ?_
      rintro e w6 ⟨r, rfl, hr, R6, G6⟩
      have rb : 0 ≤ r ∧ r ≤ 50 := by
        simp at hr
        omega
      have z6 := G6.size; simp at z6
      have O6 := Lib.hid ((O5.out.alloc (.cells ([5, 0, 10, 50, 20, 7].map (Value.int .i64)).toArray 3)).kept G6 (fun g e => by have := Option.some.inj e; omega))
      replace G6 := Lib.hid (only_trans (only_alloc G5.out _) G6); replace R6 := Lib.hid R6
      have S6 : Hid (Sts 3 w6 B n zs) := Lib.hid (by obtain ⟨B', c', e, _, R⟩ := O6.out.res; cases e; exact Sts.of_res R O6.out.2)
      have pv : psV n zs d r = true := psV_iff.2 ⟨HV.out, ⟨d0, by omega⟩, rb⟩
      have PV := Lib.hid pv
      have PS := Lib.hid (SPushTask_ok B n c zs d r (by omega) w6 S6.out pv)
      clear hr pv RR R5 G5 O5 Z
      go_wp2_with fail
      refine PS.out.mono ?_
      rintro e w7 ⟨N7, ⟨_, rfl⟩ | ⟨hok, v7, rfl, O7⟩⟩
      · have L7 := N7.le
        have O7 := Lib.hid (O6.out.new N7)
        have V7 := HV
        have R7 := Lib.hid (R6.out.new N7)
        have G7 := Lib.hid (only_new G6.out N7)
        clear N7
        by_cases h2 : 2 < n
        · have h2i : (2 : Int) < (n : Int) := by omega
          go_wp2_with fail
          refine (pick_any 4 a A m (q + 1 + 1) (by omega) hm _ R7.out).mono ?_
          rintro e w8 ⟨y, rfl, y0, y1, R8, G8⟩
          have z8 := G8.size
          have O8 := Lib.hid (O7.out.kept G8 (fun g e => by have := Option.some.inj e; omega))
          replace G8 := Lib.hid (only_trans G7.out G8); replace R8 := Lib.hid R8
          by_cases hy : y = 0
          · subst hy
            have S8 : Hid (Sts 3 w8 B n zs) := Lib.hid (by obtain ⟨B', c', e, _, R⟩ := O8.out.res; cases e; exact Sts.of_res R O8.out.2)
            have TK := Lib.hid (stake_any B n c zs V7.out (by omega) w8 S8.out)
            have hm9 : nx zs (n - 1) < n := by have := nx_le zs (n - 1); omega
            have V9 := Lib.hid (stk_ok V7.out hm9)
            generalize stk zs (nx zs (n - 1)) n = l9 at *
            clear hm9
            go_wp2_with fail
            refine TK.out.mono ?_
            rintro e w9 ⟨v9, rfl, O9, N9⟩
            replace O9 := Lib.hid (O9.weak (show w.heap.size ≤ w8.heap.size by omega))
            have R9 := Lib.hid (R8.out.new N9)
            have G9 := Lib.hid (only_new G8.out N9)
            clear N9
            go_wp2
            go_roundw
            case rel => exact ⟨i - 1, l9.length, flL l9, by omega, by go_num, O9, V9, Lib.hid ⟨q + 1 + 1 + 1, by omega, R9.out⟩, G9⟩
            case measure => simp [intOf]; omega
          · have hyb : (y == 0) = false := by simpa using hy
            clear hy
            go_wp2
            go_roundw
            case rel => exact ⟨i - 1, n, zs, by omega, by go_num, O8, V7, Lib.hid ⟨q + 1 + 1 + 1, by omega, R8.out⟩, G8⟩
            case measure => simp [intOf]; omega
        · have h2i : ¬ (2 : Int) < (n : Int) := by omega
          go_wp2
          go_roundw
          case rel => exact ⟨i - 1, n, zs, by omega, by go_num, O7, V7, Lib.hid ⟨q + 1 + 1, by omega, R7.out⟩, G7⟩
          case measure => simp [intOf]; omega
      · have L7 := N7.le
        have V7 : Hid (vtk (psL zs n d r).length (flL (psL zs n d r)) = true) := Lib.hid (by
          unfold psOk at hok
          rw [PV.out, Bool.true_and] at hok
          rw [psL_valid PV.out]; exact hok)
        replace O7 := Lib.hid (O7.weak (show w.heap.size ≤ w6.heap.size by omega))
        have R7 := Lib.hid (R6.out.new N7)
        have G7 := Lib.hid (only_new G6.out N7)
        clear N7 hok
        generalize flL (psL zs n d r) = zs7 at *
        generalize (psL zs n d r).length = n7 at *
        obtain ⟨B7, c7, e7, hcn7, _⟩ := O7.out.res
        subst e7
        have n10b := (vtk_at V7.out).1
        have n0b : (0 : Int) ≤ (n7 : Int) := by omega
        have n9b : (n7 : Int) ≤ 10 := by omega
        by_cases h2 : 2 < n7
        · have h2i : (2 : Int) < (n7 : Int) := by omega
          go_wp2_with fail
          refine (pick_any 4 a A m (q + 1 + 1) (by omega) hm _ R7.out).mono ?_
          rintro e w8 ⟨y, rfl, y0, y1, R8, G8⟩
          have z8 := G8.size
          have O8 := Lib.hid (O7.out.kept G8 (fun g e => by have := Option.some.inj e; omega))
          replace G8 := Lib.hid (only_trans G7.out G8); replace R8 := Lib.hid R8
          by_cases hy : y = 0
          · subst hy
            have S8 : Hid (Sts 3 w8 B7 n7 zs7) := Lib.hid (by obtain ⟨B', c', e, _, R⟩ := O8.out.res; cases e; exact Sts.of_res R O8.out.2)
            have TK := Lib.hid (stake_any B7 n7 c7 zs7 V7.out (by omega) w8 S8.out)
            have hm9 : nx zs7 (n7 - 1) < n7 := by have := nx_le zs7 (n7 - 1); omega
            have V9 := Lib.hid (stk_ok V7.out hm9)
            generalize stk zs7 (nx zs7 (n7 - 1)) n7 = l9 at *
            clear hm9
            go_wp2_with fail
            refine TK.out.mono ?_
            rintro e w9 ⟨v9, rfl, O9, N9⟩
            replace O9 := Lib.hid (O9.weak (show w.heap.size ≤ w8.heap.size by omega))
            have R9 := Lib.hid (R8.out.new N9)
            have G9 := Lib.hid (only_new G8.out N9)
            clear N9
            go_wp2
            go_roundw
            case rel => exact ⟨i - 1, l9.length, flL l9, by omega, by go_num, O9, V9, Lib.hid ⟨q + 1 + 1 + 1, by omega, R9.out⟩, G9⟩
            case measure => simp [intOf]; omega
          · have hyb : (y == 0) = false := by simpa using hy
            clear hy
            go_wp2
            go_roundw
            case rel => exact ⟨i - 1, n7, zs7, by omega, by go_num, O8, V7, Lib.hid ⟨q + 1 + 1 + 1, by omega, R8.out⟩, G8⟩
            case measure => simp [intOf]; omega
        · have h2i : ¬ (2 : Int) < (n7 : Int) := by omega
          go_wp2
          go_roundw
          case rel => exact ⟨i - 1, n7, zs7, by omega, by go_num, O7, V7, Lib.hid ⟨q + 1 + 1, by omega, R7.out⟩, G7⟩
          case measure => simp [intOf]; omega
    · obtain rfl : i = 0 := by omega
      subst e3
      go_wp2
      go_ret
      exact ⟨_, n, zs, rfl, HO.out, HV.out, ⟨q, by omega, RR.out⟩, HG.out⟩
/-- What drawing a queue leaves that may be invalid. -/
def DrawnA_ (w : World) (a : Nat) (A : Option Addr) (m p : Nat) (e : Ending) (w' : World) : Prop :=
  ∃ (v : Value) (n : Nat) (zs : List Int), e = .returned v ∧ OwnTask w.heap.size w' v n zs ∧ n ≤ 11 ∧ (∃ q, q ≤ p + 70 ∧ Rdr w' a A m q) ∧ w.grownBy w' (some a)
set_option maxRecDepth 100000 in
set_option maxHeartbeats 2000000 in
theorem anyTasks_any (a : Nat) (A : Option Addr) (m p : Nat) (hp : p ≤ 800000) (hm : m ≤ 2000) (w : World) (h : Rdr w a A m p) :
    Calls Try.prog 13 #[.pointer (some ⟨a, 0, none⟩)] w (DrawnA_ w a A m p) := by
  have hlt : a < w.heap.size := World.block_lt_of_cell? w ⟨a, 1, none⟩ h.pos
  have HR := Lib.hid h
  clear h
  go_enter Try.func13, Try.ntmps13
  go_wp2_with fail
  refine (someTasks_any a A m p (by omega) hm _ HR.out).mono ?_
  rintro e w1 ⟨v, n, zs, rfl, O1, hv, ⟨q, hq, R1⟩, G1⟩
  have n10 := (vtk_at hv).1
  have z1 := G1.size
  replace R1 := Lib.hid R1; replace G1 := Lib.hid G1; replace O1 := Lib.hid O1
  clear hv
  go_wp2_with fail
  refine (pick_any 16 a A m q (by omega) hm _ R1.out).mono ?_
  rintro e w2 ⟨y, rfl, y0, y1, R2, G2⟩
  have z2 := G2.size
  have O2 := Lib.hid (O1.out.kept G2 (fun g e => by have := Option.some.inj e; omega))
  replace G2 := Lib.hid (only_trans G1.out G2); replace R2 := Lib.hid R2
  by_cases hy : y = 0
  · subst hy
    go_wp2_with fail
    refine (one_any [0, 99, 100] (by simp) (by simp) w2.heap.size 3 a A m (q + 1) (by omega) hm _ (R2.out.new (by (repeat (first | exact New.refl _ | assumption | refine New.alloc ?_ _ | refine New.drew ?_ | refine New.drewN ?_ _ | refine New.setCell ?_ (by first | omega | (simp; omega) | (simp; done)) _ | refine New.trans ?_ (by assumption))))) (by omega) (by simp) (lit_at [0, 99, 100] _ _ _ rfl)).mono ?_
    rintro e w3 ⟨x0, rfl, _, R3, G3⟩
    have z3 := G3.size; simp at z3
    have O3 := Lib.hid ((O2.out.alloc (.cells ([0, 99, 100].map (Value.int .i64)).toArray 3)).kept G3 (fun g e => by have := Option.some.inj e; omega))
    replace G3 := Lib.hid (only_trans (only_alloc G2.out _) G3); replace R3 := Lib.hid R3
    go_wp2_with fail
    refine (one_any [0, 51, -1] (by simp) (by simp) w3.heap.size 3 a A m (q + 1 + 1) (by omega) hm _ (R3.out.new (by (repeat (first | exact New.refl _ | assumption | refine New.alloc ?_ _ | refine New.drew ?_ | refine New.drewN ?_ _ | refine New.setCell ?_ (by first | omega | (simp; omega) | (simp; done)) _ | refine New.trans ?_ (by assumption))))) (by omega) (by simp) (lit_at [0, 51, -1] _ _ _ rfl)).mono ?_
    rintro e w4 ⟨x1, rfl, _, R4, G4⟩
    have z4 := G4.size; simp at z4
    have O4 := Lib.hid ((O3.out.alloc (.cells ([0, 51, -1].map (Value.int .i64)).toArray 3)).kept G4 (fun g e => by have := Option.some.inj e; omega))
    replace G4 := Lib.hid (only_trans (only_alloc G3.out _) G4); replace R4 := Lib.hid R4
    go_wp2_with fail
    refine (one_any [0, 21] (by simp) (by simp) w4.heap.size 2 a A m (q + 1 + 1 + 1) (by omega) hm _ (R4.out.new (by (repeat (first | exact New.refl _ | assumption | refine New.alloc ?_ _ | refine New.drew ?_ | refine New.drewN ?_ _ | refine New.setCell ?_ (by first | omega | (simp; omega) | (simp; done)) _ | refine New.trans ?_ (by assumption))))) (by omega) (by simp) (lit_at [0, 21] _ _ _ rfl)).mono ?_
    rintro e w5 ⟨x2, rfl, _, R5, G5⟩
    have z5 := G5.size; simp at z5
    have O5 := Lib.hid ((O4.out.alloc (.cells ([0, 21].map (Value.int .i64)).toArray 3)).kept G5 (fun g e => by have := Option.some.inj e; omega))
    replace G5 := Lib.hid (only_trans (only_alloc G4.out _) G5); replace R5 := Lib.hid R5
    go_wp2_with (at_builtin; refine wp_appTask rfl _ _ rfl w.heap.size v n zs rfl (O5.out.alloc _) w5.heap.size x0 x1 x2 rfl (Row.oneTask w5 _ _ _ _) (by omega) (by simp; omega) ?_; intro v9 w9 O9 G9; (have R9 := Lib.hid ((R5.out.new ((New.refl _).alloc _)).ownTask G9 (O5.out.alloc _) (by omega))); (replace G9 := Lib.hid (only_ownTask (only_alloc G5.out _) G9 (O5.out.alloc _) (Nat.le_refl _))); (replace O9 := Lib.hid O9))
    go_ret
    exact ⟨v9, n + 1, _, rfl, O9.out, by omega, ⟨q + 1 + 1 + 1 + 1, by omega, R9.out⟩, G9.out⟩
  · have hyb : (y == 0) = false := by simpa using hy
    clear hy
    go_wp2
    go_ret
    exact ⟨v, n, zs, rfl, O2.out, by omega, ⟨q + 1, by omega, R2.out⟩, G2.out⟩
/-- What drawing a queue leaves. -/
def DrawnTs (w : World) (e : Ending) (w' : World) : Prop :=
  ∃ (B : Option Addr) (n c : Nat) (ys : List Int), e = .returned (.slice B n c) ∧ Sts 3 w' B n ys ∧ n ≤ c ∧ n ≤ 11 ∧ New w w'
set_option maxHeartbeats 1000000 in
theorem DrawTaskOrder_any (A : Option Addr) (n c : Nat) (hn : n ≤ maxLen) (hnc : n ≤ c) (w : World) (hb : Bytes w A n) :
    Calls Try.prog 6 #[.slice A n c] w (DrawnTs w) := by
  have HB := Lib.hid hb
  clear hb
  go_enter Try.func6, Try.ntmps6
  go_wp2_with fail
  refine (newReader_any A n c hn hnc _ HB.out).mono ?_
  rintro e w1 ⟨rfl, ⟨m, hm, R1⟩, N1, z1⟩
  replace R1 := Lib.hid R1; replace N1 := Lib.hid N1
  go_wp2_with fail
  refine (anyTasks_any w.heap.size A m 0 (by omega) hm _ R1.out).mono ?_
  rintro e w2 ⟨v, k, ys, rfl, O2, hk9, _, G2⟩
  obtain ⟨B, c2, rfl, hkc, Z2⟩ := O2.res
  have S2 := Lib.hid (Sts.of_res Z2 O2.2)
  have N2 := Lib.hid (new_only N1.out (Nat.le_refl _) G2)
  clear Z2 O2 G2
  go_wp2
  go_ret
  exact ⟨B, k, c2, ys, rfl, S2.out, hkc, hk9, N2.out⟩
/-- What drawing a queue and two numbers leaves. -/
def DrawnTsNN (w : World) (e : Ending) (w' : World) : Prop :=
  ∃ (B : Option Addr) (n c : Nat) (ys : List Int) (x y : Int), e = .returned (.tuple #[.slice B n c, .int .i64 x, .int .i64 y]) ∧ Sts 3 w' B n ys ∧ n ≤ c ∧ n ≤ 11 ∧ New w w'
end Go.Proofs.Ytpkombjmbpgdnaa
