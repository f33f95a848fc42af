/- The helpers of the exact laws on slices of Box: copied, measured, compared and marked. Conditions: the slices can be read, or lie in a block of the call's own. -/
import Derived.Test.YtffggmjhaaehlaaDoorSts
namespace Go.Proofs.YtffggmjhaaehlaaDoor
open Go.RowKit

set_option maxHeartbeats 400000 in
theorem toBox_any (x0 x1 x2 x3 x4 x5 x6 x7 x8 : Int) (w : World) :
    Calls Tryd.prog 15 #[.agg #[.int .i64 x0, .int .i64 x1, .int .i64 x2, .int .i64 x3, .int .i64 x4, .int .i64 x5, .int .i64 x6, .int .i64 x7, .int .i64 x8]] w fun e w' => e = .returned (.agg #[.int .i64 x0, .int .i64 x1, .int .i64 x2, .int .i64 x3, .int .i64 x4, .int .i64 x5, .int .i64 x6, .int .i64 x7, .int .i64 x8]) ∧ New w w' := by
  go_enter Tryd.func15, Tryd.ntmps15
  go_wp2
  go_returns
  exact ⟨rfl, by (repeat (first | exact New.refl _ | assumption | refine New.alloc ?_ _ | refine New.drew ?_ | refine New.drewN ?_ _ | refine New.setCell ?_ (by first | omega | (simp; omega) | (simp; done)) _ | refine New.trans ?_ (by assumption)))⟩
theorem mkBox (n : Nat) (hn : n ≤ 1048576) (W : World) : (Instr.makeSlice 25 (.int .i64 (n : Int)) (.int .i64 (n : Int))).run Tryd.prog W = .ok (.slice (some ⟨W.heap.size, 0, none⟩) n n) (W.alloc (.cells (madeCells #[Value.int .i64 0, Value.int .i64 0, Value.int .i64 0, Value.int .i64 0, Value.int .i64 0, Value.int .i64 0, Value.int .i64 0, Value.int .i64 0, Value.int .i64 0] (n * 9)) 32)) := by
  have hinfo : (Tryd.prog.info? 32).map (fun i => (i.zero, i.size, i.bytes)) = some (some (.agg #[Value.int .i64 0, Value.int .i64 0, Value.int .i64 0, Value.int .i64 0, Value.int .i64 0, Value.int .i64 0, Value.int .i64 0, Value.int .i64 0, Value.int .i64 0]), 9, 72) := by kernel_rfl
  obtain ⟨i, hi, hzz⟩ := Option.map_eq_some_iff.1 hinfo
  simp only [Prod.mk.injEq] at hzz
  obtain ⟨hz, hs, hb⟩ := hzz
  have h := run_make (P := Tryd.prog) W 25 32 i (.agg #[Value.int .i64 0, Value.int .i64 0, Value.int .i64 0, Value.int .i64 0, Value.int .i64 0, Value.int .i64 0, Value.int .i64 0, Value.int .i64 0, Value.int .i64 0]) Tryd.underlying25 hi hz .i64 .i64 (n : Int) (n : Int) (by omega) (by omega) (by rw [hb]; omega) (by omega)
  rw [hs] at h
  exact h
theorem zeroBox (i : Nat) : (#[Value.int .i64 0, Value.int .i64 0, Value.int .i64 0, Value.int .i64 0, Value.int .i64 0, Value.int .i64 0, Value.int .i64 0, Value.int .i64 0, Value.int .i64 0] : Array Value)[i % (#[Value.int .i64 0, Value.int .i64 0, Value.int .i64 0, Value.int .i64 0, Value.int .i64 0, Value.int .i64 0, Value.int .i64 0, Value.int .i64 0, Value.int .i64 0] : Array Value).size]! = .int .i64 0 := by
  have h : i % 9 < 9 := Nat.mod_lt _ (by omega)
  have hs : (#[Value.int .i64 0, Value.int .i64 0, Value.int .i64 0, Value.int .i64 0, Value.int .i64 0, Value.int .i64 0, Value.int .i64 0, Value.int .i64 0, Value.int .i64 0] : Array Value).size = 9 := rfl
  rw [hs]
  generalize i % 9 = j at h
  match j, h with
  | 0, _ => rfl
  | 1, _ => rfl
  | 2, _ => rfl
  | 3, _ => rfl
  | 4, _ => rfl
  | 5, _ => rfl
  | 6, _ => rfl
  | 7, _ => rfl
  | 8, _ => rfl
  | j + 9, h => omega
theorem rowBox_step {w2 : World} {g k n : Nat} {xs : List Int} (r : Row w2 g (upTo (k * 9) xs)) (hx : xs.length = n * 9) (hlt : k < n) : Row (((((((((w2.setCell ⟨g, k * 9, none⟩ (.int .i64 (xs.getD (k * 9) 0))).setCell ⟨g, k * 9 + 1, none⟩ (.int .i64 (xs.getD (k * 9 + 1) 0))).setCell ⟨g, k * 9 + 2, none⟩ (.int .i64 (xs.getD (k * 9 + 2) 0))).setCell ⟨g, k * 9 + 3, none⟩ (.int .i64 (xs.getD (k * 9 + 3) 0))).setCell ⟨g, k * 9 + 4, none⟩ (.int .i64 (xs.getD (k * 9 + 4) 0))).setCell ⟨g, k * 9 + 5, none⟩ (.int .i64 (xs.getD (k * 9 + 5) 0))).setCell ⟨g, k * 9 + 6, none⟩ (.int .i64 (xs.getD (k * 9 + 6) 0))).setCell ⟨g, k * 9 + 7, none⟩ (.int .i64 (xs.getD (k * 9 + 7) 0))).setCell ⟨g, k * 9 + 8, none⟩ (.int .i64 (xs.getD (k * 9 + 8) 0))) g (upTo ((k + 1) * 9) xs) := by
  have lq : ∀ j, j < 9 → k * 9 + j < xs.length := fun j hj => by rw [hx]; exact idx_lt hlt hj
  have r := r.set_ (k := k * 9) (by rw [upTo_len _ _ (by have := lq 0 (by omega); omega)]; exact lq 0 (by omega)) (xs.getD (k * 9) 0)
  rw [upTo_step (k * 9) xs (by have := lq 0 (by omega); omega)] at r
  have r := r.set_ (k := k * 9 + 1) (by rw [upTo_len _ _ (by have := lq 1 (by omega); omega)]; exact lq 1 (by omega)) (xs.getD (k * 9 + 1) 0)
  rw [upTo_step (k * 9 + 1) xs (by have := lq 1 (by omega); omega)] at r
  have r := r.set_ (k := k * 9 + 2) (by rw [upTo_len _ _ (by have := lq 2 (by omega); omega)]; exact lq 2 (by omega)) (xs.getD (k * 9 + 2) 0)
  rw [upTo_step (k * 9 + 2) xs (by have := lq 2 (by omega); omega)] at r
  have r := r.set_ (k := k * 9 + 3) (by rw [upTo_len _ _ (by have := lq 3 (by omega); omega)]; exact lq 3 (by omega)) (xs.getD (k * 9 + 3) 0)
  rw [upTo_step (k * 9 + 3) xs (by have := lq 3 (by omega); omega)] at r
  have r := r.set_ (k := k * 9 + 4) (by rw [upTo_len _ _ (by have := lq 4 (by omega); omega)]; exact lq 4 (by omega)) (xs.getD (k * 9 + 4) 0)
  rw [upTo_step (k * 9 + 4) xs (by have := lq 4 (by omega); omega)] at r
  have r := r.set_ (k := k * 9 + 5) (by rw [upTo_len _ _ (by have := lq 5 (by omega); omega)]; exact lq 5 (by omega)) (xs.getD (k * 9 + 5) 0)
  rw [upTo_step (k * 9 + 5) xs (by have := lq 5 (by omega); omega)] at r
  have r := r.set_ (k := k * 9 + 6) (by rw [upTo_len _ _ (by have := lq 6 (by omega); omega)]; exact lq 6 (by omega)) (xs.getD (k * 9 + 6) 0)
  rw [upTo_step (k * 9 + 6) xs (by have := lq 6 (by omega); omega)] at r
  have r := r.set_ (k := k * 9 + 7) (by rw [upTo_len _ _ (by have := lq 7 (by omega); omega)]; exact lq 7 (by omega)) (xs.getD (k * 9 + 7) 0)
  rw [upTo_step (k * 9 + 7) xs (by have := lq 7 (by omega); omega)] at r
  have r := r.set_ (k := k * 9 + 8) (by rw [upTo_len _ _ (by have := lq 8 (by omega); omega)]; exact lq 8 (by omega)) (xs.getD (k * 9 + 8) 0)
  rw [upTo_step (k * 9 + 8) xs (by have := lq 8 (by omega); omega)] at r
  rw [Nat.add_mul, Nat.one_mul]
  exact r
set_option maxHeartbeats 2000000 in
theorem toBoxS_any (A : Option Addr) (n c : Nat) (xs : List Int) (hn : n ≤ 1048576) (w : World) (hx : Sts 9 w A n xs) :
    Calls Tryd.prog 8 #[.slice A n c] w (AnsS 9 w xs) := by
  have hmk := fun W => mkBox n hn W
  have lx := hx.len
  have LX := Lib.hid lx
  have HX := Lib.hid hx
  clear hx lx
  go_enter Tryd.func8, Tryd.ntmps8
  go_wp2
  have R0 := Row.zeros w #[Value.int .i64 0, Value.int .i64 0, Value.int .i64 0, Value.int .i64 0, Value.int .i64 0, Value.int .i64 0, Value.int .i64 0, Value.int .i64 0, Value.int .i64 0] (n * 9) 32 zeroBox
  have N0 : New w (w.alloc (.cells (madeCells #[Value.int .i64 0, Value.int .i64 0, Value.int .i64 0, Value.int .i64 0, Value.int .i64 0, Value.int .i64 0, Value.int .i64 0, Value.int .i64 0, Value.int .i64 0] (n * 9)) 32)) := by (repeat (first | exact New.refl _ | assumption | refine New.alloc ?_ _ | refine New.drew ?_ | refine New.drewN ?_ _ | refine New.setCell ?_ (by first | omega | (simp; omega) | (simp; done)) _ | refine New.trans ?_ (by assumption)))
  have R0 := Lib.hid R0; have N0 := Lib.hid N0
  clear hmk
  generalize hW : w.alloc (.cells (madeCells #[Value.int .i64 0, Value.int .i64 0, Value.int .i64 0, Value.int .i64 0, Value.int .i64 0, Value.int .i64 0, Value.int .i64 0, Value.int .i64 0, Value.int .i64 0] (n * 9)) 32) = W at R0 N0 ⊢
  clear hW
  go_loopw [4] (fun i wr => ∃ k : Nat, k ≤ n ∧ i = .int .i64 k ∧ Hid (Row wr w.heap.size (upTo (k * 9) xs)) ∧ Hid (New w wr)) (fun i _ => n - (intOf i).toNat)
  case atStart => exact ⟨0, Nat.zero_le _, rfl, Lib.hid (by rw [Nat.zero_mul, upTo_zero, LX.out]; exact R0.out), N0⟩
  case round =>
    obtain ⟨k, hk, rfl, HR, HN⟩ := hrel
    by_cases hlt : k < n
    · obtain ⟨b, off, rfl, hb, hc⟩ := HX.out.at_ (by omega)
      have LU := Lib.hid (upTo_len (k * 9) xs (by rw [LX.out]; exact Nat.mul_le_mul_right 9 hk))
      have g0 : wr.cell? ⟨b, off + k * 9, none⟩ = some (.int .i64 (xs.getD (k * 9) 0)) := (HN.out.cells b _ hb).trans (hc (k * 9) (by have := idx_lt (m := 9) (j := 0) hlt (by omega); omega))
      have g1 : wr.cell? ⟨b, off + k * 9 + 1, none⟩ = some (.int .i64 (xs.getD (k * 9 + 1) 0)) := (HN.out.cells b _ hb).trans (hc (k * 9 + 1) (by have := idx_lt (m := 9) (j := 1) hlt (by omega); omega))
      have g2 : wr.cell? ⟨b, off + k * 9 + 2, none⟩ = some (.int .i64 (xs.getD (k * 9 + 2) 0)) := (HN.out.cells b _ hb).trans (hc (k * 9 + 2) (by have := idx_lt (m := 9) (j := 2) hlt (by omega); omega))
      have g3 : wr.cell? ⟨b, off + k * 9 + 3, none⟩ = some (.int .i64 (xs.getD (k * 9 + 3) 0)) := (HN.out.cells b _ hb).trans (hc (k * 9 + 3) (by have := idx_lt (m := 9) (j := 3) hlt (by omega); omega))
      have g4 : wr.cell? ⟨b, off + k * 9 + 4, none⟩ = some (.int .i64 (xs.getD (k * 9 + 4) 0)) := (HN.out.cells b _ hb).trans (hc (k * 9 + 4) (by have := idx_lt (m := 9) (j := 4) hlt (by omega); omega))
      have g5 : wr.cell? ⟨b, off + k * 9 + 5, none⟩ = some (.int .i64 (xs.getD (k * 9 + 5) 0)) := (HN.out.cells b _ hb).trans (hc (k * 9 + 5) (by have := idx_lt (m := 9) (j := 5) hlt (by omega); omega))
      have g6 : wr.cell? ⟨b, off + k * 9 + 6, none⟩ = some (.int .i64 (xs.getD (k * 9 + 6) 0)) := (HN.out.cells b _ hb).trans (hc (k * 9 + 6) (by have := idx_lt (m := 9) (j := 6) hlt (by omega); omega))
      have g7 : wr.cell? ⟨b, off + k * 9 + 7, none⟩ = some (.int .i64 (xs.getD (k * 9 + 7) 0)) := (HN.out.cells b _ hb).trans (hc (k * 9 + 7) (by have := idx_lt (m := 9) (j := 7) hlt (by omega); omega))
      have g8 : wr.cell? ⟨b, off + k * 9 + 8, none⟩ = some (.int .i64 (xs.getD (k * 9 + 8) 0)) := (HN.out.cells b _ hb).trans (hc (k * 9 + 8) (by have := idx_lt (m := 9) (j := 8) hlt (by omega); omega))
      have q0 : k * 9 < (upTo (k * 9) xs).length := by rw [LU.out, LX.out]; have := idx_lt (m := 9) (j := 0) hlt (by omega); omega
      have q1 : k * 9 + 1 < (upTo (k * 9) xs).length := by rw [LU.out, LX.out]; have := idx_lt (m := 9) (j := 1) hlt (by omega); omega
      have q2 : k * 9 + 2 < (upTo (k * 9) xs).length := by rw [LU.out, LX.out]; have := idx_lt (m := 9) (j := 2) hlt (by omega); omega
      have q3 : k * 9 + 3 < (upTo (k * 9) xs).length := by rw [LU.out, LX.out]; have := idx_lt (m := 9) (j := 3) hlt (by omega); omega
      have q4 : k * 9 + 4 < (upTo (k * 9) xs).length := by rw [LU.out, LX.out]; have := idx_lt (m := 9) (j := 4) hlt (by omega); omega
      have q5 : k * 9 + 5 < (upTo (k * 9) xs).length := by rw [LU.out, LX.out]; have := idx_lt (m := 9) (j := 5) hlt (by omega); omega
      have q6 : k * 9 + 6 < (upTo (k * 9) xs).length := by rw [LU.out, LX.out]; have := idx_lt (m := 9) (j := 6) hlt (by omega); omega
      have q7 : k * 9 + 7 < (upTo (k * 9) xs).length := by rw [LU.out, LX.out]; have := idx_lt (m := 9) (j := 7) hlt (by omega); omega
      have q8 : k * 9 + 8 < (upTo (k * 9) xs).length := by rw [LU.out, LX.out]; have := idx_lt (m := 9) (j := 8) hlt (by omega); omega
      have tr := HR.out.lt
      have f0 := HR.out.f (k * 9) q0; have o0 := HR.out.c (k * 9) q0
      have f1 := HR.out.f (k * 9 + 1) q1; have o1 := HR.out.c (k * 9 + 1) q1
      have f2 := HR.out.f (k * 9 + 2) q2; have o2 := HR.out.c (k * 9 + 2) q2
      have f3 := HR.out.f (k * 9 + 3) q3; have o3 := HR.out.c (k * 9 + 3) q3
      have f4 := HR.out.f (k * 9 + 4) q4; have o4 := HR.out.c (k * 9 + 4) q4
      have f5 := HR.out.f (k * 9 + 5) q5; have o5 := HR.out.c (k * 9 + 5) q5
      have f6 := HR.out.f (k * 9 + 6) q6; have o6 := HR.out.c (k * 9 + 6) q6
      have f7 := HR.out.f (k * 9 + 7) q7; have o7 := HR.out.c (k * 9 + 7) q7
      have f8 := HR.out.f (k * 9 + 8) q8; have o8 := HR.out.c (k * 9 + 8) q8
      have HS := Lib.hid (fun (w2 : World) (h2 : New wr w2) => rowBox_step (HR.out.new h2) LX.out hlt)
      clear hc q0 q1 q2 q3 q4 q5 q6 q7 q8
      generalize xs.getD (k * 9) 0 = y0 at g0 HS
      generalize xs.getD (k * 9 + 1) 0 = y1 at g1 HS
      generalize xs.getD (k * 9 + 2) 0 = y2 at g2 HS
      generalize xs.getD (k * 9 + 3) 0 = y3 at g3 HS
      generalize xs.getD (k * 9 + 4) 0 = y4 at g4 HS
      generalize xs.getD (k * 9 + 5) 0 = y5 at g5 HS
      generalize xs.getD (k * 9 + 6) 0 = y6 at g6 HS
      generalize xs.getD (k * 9 + 7) 0 = y7 at g7 HS
      generalize xs.getD (k * 9 + 8) 0 = y8 at g8 HS
      generalize (upTo (k * 9) xs).getD (k * 9) 0 = z0 at o0
      generalize (upTo (k * 9) xs).getD (k * 9 + 1) 0 = z1 at o1
      generalize (upTo (k * 9) xs).getD (k * 9 + 2) 0 = z2 at o2
      generalize (upTo (k * 9) xs).getD (k * 9 + 3) 0 = z3 at o3
      generalize (upTo (k * 9) xs).getD (k * 9 + 4) 0 = z4 at o4
      generalize (upTo (k * 9) xs).getD (k * 9 + 5) 0 = z5 at o5
      generalize (upTo (k * 9) xs).getD (k * 9 + 6) 0 = z6 at o6
      generalize (upTo (k * 9) xs).getD (k * 9 + 7) 0 = z7 at o7
      generalize (upTo (k * 9) xs).getD (k * 9 + 8) 0 = z8 at o8
      have k0 : (0 : Int) ≤ (k : Int) := by omega
      have k1 : (k : Int) < (n : Int) := by omega
      go_wp2_with fail
      refine (toBox_any _ _ _ _ _ _ _ _ _ _).mono ?_
      rintro e w2 ⟨rfl, h2⟩
      have f0' := (h2.marks _ _ tr).trans f0; have o0' := (h2.cells _ _ tr).trans o0
      have f1' := (h2.marks _ _ tr).trans f1; have o1' := (h2.cells _ _ tr).trans o1
      have f2' := (h2.marks _ _ tr).trans f2; have o2' := (h2.cells _ _ tr).trans o2
      have f3' := (h2.marks _ _ tr).trans f3; have o3' := (h2.cells _ _ tr).trans o3
      have f4' := (h2.marks _ _ tr).trans f4; have o4' := (h2.cells _ _ tr).trans o4
      have f5' := (h2.marks _ _ tr).trans f5; have o5' := (h2.cells _ _ tr).trans o5
      have f6' := (h2.marks _ _ tr).trans f6; have o6' := (h2.cells _ _ tr).trans o6
      have f7' := (h2.marks _ _ tr).trans f7; have o7' := (h2.cells _ _ tr).trans o7
      have f8' := (h2.marks _ _ tr).trans f8; have o8' := (h2.cells _ _ tr).trans o8
      have T2 := Lib.hid (HS.out w2 h2); have N2 := Lib.hid (HN.out.trans h2)
      clear h2 f0 o0 g0 f1 o1 g1 f2 o2 g2 f3 o3 g3 f4 o4 g4 f5 o5 g5 f6 o6 g6 f7 o7 g7 f8 o8 g8
      go_wp2
      go_roundw
      case rel => exact ⟨k + 1, by omega, by go_num, T2, Lib.hid (New.setCell (New.setCell (New.setCell (New.setCell (New.setCell (New.setCell (New.setCell (New.setCell (New.setCell (N2.out) (Nat.le_refl _) _) (Nat.le_refl _) _) (Nat.le_refl _) _) (Nat.le_refl _) _) (Nat.le_refl _) _) (Nat.le_refl _) _) (Nat.le_refl _) _) (Nat.le_refl _) _) (Nat.le_refl _) _)⟩
      case measure => simp [intOf]; omega
    · have hk' : k = n := by omega
      subst hk'
      go_wp2
      go_ret
      refine AnsS.row rfl LX.out (Nat.le_refl _) ?_ HN.out
      have h := HR.out
      rw [← LX.out, upTo_all] at h
      exact h
set_option maxHeartbeats 400000 in
theorem szBox_ok (A : Option Addr) (n c : Nat) (l : Nat) (hl : l ≤ 1048576) (h : n ≤ l) (w : World) :
    Calls Tryd.prog 6 #[.slice A n c, .int .i64 l] w fun e w' => e = .returned (.int .i64 ((l : Int) - (n : Int))) ∧ w = w' := by
  have h1 : (n : Int) ≤ (l : Int) := by omega
  have h2 : (0 : Int) ≤ (n : Int) := by omega
  have h3 : (l : Int) ≤ 1048576 := by omega
  go_enter Tryd.func6, Tryd.ntmps6
  go_wp2
  go_ret
  exact ⟨rfl, rfl⟩
set_option maxHeartbeats 400000 in
theorem szBox_no (A : Option Addr) (n c : Nat) (l : Nat) (hn : n ≤ maxLen) (h : l < n) (w : World) :
    Calls Tryd.prog 6 #[.slice A n c, .int .i64 l] w fun e w' => e = .returned (.int .i64 (-1)) ∧ w = w' := by
  unfold maxLen at hn
  have h1 : (l : Int) < (n : Int) := by omega
  have h2 : (0 : Int) ≤ (l : Int) := by omega
  have h3 : (n : Int) ≤ 9223372036854775807 := by omega
  go_enter Tryd.func6, Tryd.ntmps6
  go_wp2
  go_ret
  exact ⟨rfl, rfl⟩
set_option maxHeartbeats 400000 in
theorem eqBox_same (x0 x1 x2 x3 x4 x5 x6 x7 x8 : Int) (w : World) :
    Calls Tryd.prog 21 #[.agg #[.int .i64 x0, .int .i64 x1, .int .i64 x2, .int .i64 x3, .int .i64 x4, .int .i64 x5, .int .i64 x6, .int .i64 x7, .int .i64 x8], .agg #[.int .i64 x0, .int .i64 x1, .int .i64 x2, .int .i64 x3, .int .i64 x4, .int .i64 x5, .int .i64 x6, .int .i64 x7, .int .i64 x8]] w fun e w' => e = .returned (.bool true) ∧ New w w' := by
  go_enter Tryd.func21, Tryd.ntmps21
  go_wp2
  go_ret
  exact ⟨rfl, by (repeat (first | exact New.refl _ | assumption | refine New.alloc ?_ _ | refine New.drew ?_ | refine New.drewN ?_ _ | refine New.setCell ?_ (by first | omega | (simp; omega) | (simp; done)) _ | refine New.trans ?_ (by assumption)))⟩
set_option maxRecDepth 100000 in
set_option maxHeartbeats 2000000 in
theorem eqBoxS_any (A B : Option Addr) (n n' c d : Nat) (xs : List Int) (hn : n ≤ 1048576) (hn' : n' ≤ 1048576) (w : World) (hx : Sts 9 w A n xs) (hy : Sts 9 w B n' xs) :
    Calls Tryd.prog 10 #[.slice A n c, .slice B n' d] w fun e w' => e = .returned (.bool true) ∧ New w w' := by
  have HX := Lib.hid hx; have HY := Lib.hid hy
  obtain rfl : n = n' := by have h1 := hx.len; have h2 := hy.len; omega
  clear hx hy hn'
  go_enter Tryd.func10, Tryd.ntmps10
  go_wp2
  go_loopw [5] (fun i wr => ∃ k : Nat, k ≤ n ∧ i = .int .i64 k ∧ Hid (New w wr)) (fun i _ => n - (intOf i).toNat)
  case atStart => exact ⟨0, Nat.zero_le _, rfl, Lib.hid (New.refl _)⟩
  case round =>
    obtain ⟨k, hk, rfl, HN⟩ := hrel
    by_cases hlt : k < n
    · obtain ⟨b, off, rfl, hb, hc⟩ := HX.out.at_ (by omega)
      obtain ⟨b', off', rfl, hb', hc'⟩ := HY.out.at_ (by omega)
      have g0 : wr.cell? ⟨b, off + k * 9, none⟩ = some (.int .i64 (xs.getD (k * 9) 0)) := (HN.out.cells b _ hb).trans (hc (k * 9) (by have := idx_lt (m := 9) (j := 0) hlt (by omega); omega)); have g0' : wr.cell? ⟨b', off' + k * 9, none⟩ = some (.int .i64 (xs.getD (k * 9) 0)) := (HN.out.cells b' _ hb').trans (hc' (k * 9) (by have := idx_lt (m := 9) (j := 0) hlt (by omega); omega))
      have g1 : wr.cell? ⟨b, off + k * 9 + 1, none⟩ = some (.int .i64 (xs.getD (k * 9 + 1) 0)) := (HN.out.cells b _ hb).trans (hc (k * 9 + 1) (by have := idx_lt (m := 9) (j := 1) hlt (by omega); omega)); have g1' : wr.cell? ⟨b', off' + k * 9 + 1, none⟩ = some (.int .i64 (xs.getD (k * 9 + 1) 0)) := (HN.out.cells b' _ hb').trans (hc' (k * 9 + 1) (by have := idx_lt (m := 9) (j := 1) hlt (by omega); omega))
      have g2 : wr.cell? ⟨b, off + k * 9 + 2, none⟩ = some (.int .i64 (xs.getD (k * 9 + 2) 0)) := (HN.out.cells b _ hb).trans (hc (k * 9 + 2) (by have := idx_lt (m := 9) (j := 2) hlt (by omega); omega)); have g2' : wr.cell? ⟨b', off' + k * 9 + 2, none⟩ = some (.int .i64 (xs.getD (k * 9 + 2) 0)) := (HN.out.cells b' _ hb').trans (hc' (k * 9 + 2) (by have := idx_lt (m := 9) (j := 2) hlt (by omega); omega))
      have g3 : wr.cell? ⟨b, off + k * 9 + 3, none⟩ = some (.int .i64 (xs.getD (k * 9 + 3) 0)) := (HN.out.cells b _ hb).trans (hc (k * 9 + 3) (by have := idx_lt (m := 9) (j := 3) hlt (by omega); omega)); have g3' : wr.cell? ⟨b', off' + k * 9 + 3, none⟩ = some (.int .i64 (xs.getD (k * 9 + 3) 0)) := (HN.out.cells b' _ hb').trans (hc' (k * 9 + 3) (by have := idx_lt (m := 9) (j := 3) hlt (by omega); omega))
      have g4 : wr.cell? ⟨b, off + k * 9 + 4, none⟩ = some (.int .i64 (xs.getD (k * 9 + 4) 0)) := (HN.out.cells b _ hb).trans (hc (k * 9 + 4) (by have := idx_lt (m := 9) (j := 4) hlt (by omega); omega)); have g4' : wr.cell? ⟨b', off' + k * 9 + 4, none⟩ = some (.int .i64 (xs.getD (k * 9 + 4) 0)) := (HN.out.cells b' _ hb').trans (hc' (k * 9 + 4) (by have := idx_lt (m := 9) (j := 4) hlt (by omega); omega))
      have g5 : wr.cell? ⟨b, off + k * 9 + 5, none⟩ = some (.int .i64 (xs.getD (k * 9 + 5) 0)) := (HN.out.cells b _ hb).trans (hc (k * 9 + 5) (by have := idx_lt (m := 9) (j := 5) hlt (by omega); omega)); have g5' : wr.cell? ⟨b', off' + k * 9 + 5, none⟩ = some (.int .i64 (xs.getD (k * 9 + 5) 0)) := (HN.out.cells b' _ hb').trans (hc' (k * 9 + 5) (by have := idx_lt (m := 9) (j := 5) hlt (by omega); omega))
      have g6 : wr.cell? ⟨b, off + k * 9 + 6, none⟩ = some (.int .i64 (xs.getD (k * 9 + 6) 0)) := (HN.out.cells b _ hb).trans (hc (k * 9 + 6) (by have := idx_lt (m := 9) (j := 6) hlt (by omega); omega)); have g6' : wr.cell? ⟨b', off' + k * 9 + 6, none⟩ = some (.int .i64 (xs.getD (k * 9 + 6) 0)) := (HN.out.cells b' _ hb').trans (hc' (k * 9 + 6) (by have := idx_lt (m := 9) (j := 6) hlt (by omega); omega))
      have g7 : wr.cell? ⟨b, off + k * 9 + 7, none⟩ = some (.int .i64 (xs.getD (k * 9 + 7) 0)) := (HN.out.cells b _ hb).trans (hc (k * 9 + 7) (by have := idx_lt (m := 9) (j := 7) hlt (by omega); omega)); have g7' : wr.cell? ⟨b', off' + k * 9 + 7, none⟩ = some (.int .i64 (xs.getD (k * 9 + 7) 0)) := (HN.out.cells b' _ hb').trans (hc' (k * 9 + 7) (by have := idx_lt (m := 9) (j := 7) hlt (by omega); omega))
      have g8 : wr.cell? ⟨b, off + k * 9 + 8, none⟩ = some (.int .i64 (xs.getD (k * 9 + 8) 0)) := (HN.out.cells b _ hb).trans (hc (k * 9 + 8) (by have := idx_lt (m := 9) (j := 8) hlt (by omega); omega)); have g8' : wr.cell? ⟨b', off' + k * 9 + 8, none⟩ = some (.int .i64 (xs.getD (k * 9 + 8) 0)) := (HN.out.cells b' _ hb').trans (hc' (k * 9 + 8) (by have := idx_lt (m := 9) (j := 8) hlt (by omega); omega))
      clear hc hc'
      generalize xs.getD (k * 9) 0 = y0 at g0 g0'
      generalize xs.getD (k * 9 + 1) 0 = y1 at g1 g1'
      generalize xs.getD (k * 9 + 2) 0 = y2 at g2 g2'
      generalize xs.getD (k * 9 + 3) 0 = y3 at g3 g3'
      generalize xs.getD (k * 9 + 4) 0 = y4 at g4 g4'
      generalize xs.getD (k * 9 + 5) 0 = y5 at g5 g5'
      generalize xs.getD (k * 9 + 6) 0 = y6 at g6 g6'
      generalize xs.getD (k * 9 + 7) 0 = y7 at g7 g7'
      generalize xs.getD (k * 9 + 8) 0 = y8 at g8 g8'
      have k0 : (0 : Int) ≤ (k : Int) := by omega
      have k1 : (k : Int) < (n : Int) := by omega
      go_wp2
      go_still_tail 8, (by kernel_rfl)
      change wpList _ _ _ _ _ wr.drew
      have HN1 := Lib.hid HN.out.drew
      generalize wr.drew = w1 at HN1 ⊢
      go_wp2_with fail
      refine (eqBox_same _ _ _ _ _ _ _ _ _ _).mono ?_
      rintro e w2 ⟨rfl, h2⟩
      have HN2 := Lib.hid (HN1.out.trans h2)
      clear h2
      go_wp2
      go_roundw
      case rel => exact ⟨k + 1, by omega, by go_num, HN2⟩
      case measure => simp [intOf]; omega
    · have hk' : k = n := by omega
      subst hk'
      go_wp2
      go_ret
      exact ⟨rfl, HN.out⟩
end Go.Proofs.YtffggmjhaaehlaaDoor
