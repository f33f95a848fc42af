/- Parts that belong together: BoxS, BoxA. Conditions: as each part says. -/
import Derived.Test.YtokcbfnmnccacaaZA
import Derived.Test.YtokcbfnmnccacaaZC
/- The helpers of the exact laws on slices of Box: copied, measured, compared and marked. Conditions: the slices can be read, or lie in a block of the call's own. -/
namespace Go.Proofs.Ytokcbfnmnccacaa
open Go.RowKit

set_option maxHeartbeats 400000 in
theorem toBox_any (x0 x1 x2 x3 x4 x5 x6 x7 x8 : Int) (w : World) :
    Calls Try.prog 32 #[.agg #[.int .i64 x0, .int .i64 x1, .int .i64 x2, .int .i64 x3, .int .i64 x4, .int .i64 x5, .int .i64 x6, .int .i64 x7, .int .i64 x8]] w fun e w' => e = .returned (.agg #[.int .i64 x0, .int .i64 x1, .int .i64 x2, .int .i64 x3, .int .i64 x4, .int .i64 x5, .int .i64 x6, .int .i64 x7, .int .i64 x8]) ∧ New w w' := by
  go_enter Try.func32, Try.ntmps32
  go_wp2
  go_returns
  exact ⟨rfl, by (repeat (first | exact New.refl _ | assumption | refine New.alloc ?_ _ | refine New.drew ?_ | refine New.drewN ?_ _ | refine New.setCell ?_ (by first | omega | (simp; omega) | (simp; done)) _ | refine New.trans ?_ (by assumption)))⟩
theorem mkBox (n : Nat) (hn : n ≤ 1048576) (W : World) : (Instr.makeSlice 26 (.int .i64 (n : Int)) (.int .i64 (n : Int))).run Try.prog W = .ok (.slice (some ⟨W.heap.size, 0, none⟩) n n) (W.alloc (.cells (madeCells #[Value.int .i64 0, Value.int .i64 0, Value.int .i64 0, Value.int .i64 0, Value.int .i64 0, Value.int .i64 0, Value.int .i64 0, Value.int .i64 0, Value.int .i64 0] (n * 9)) 54)) := by
  have hinfo : (Try.prog.info? 54).map (fun i => (i.zero, i.size, i.bytes)) = some (some (.agg #[Value.int .i64 0, Value.int .i64 0, Value.int .i64 0, Value.int .i64 0, Value.int .i64 0, Value.int .i64 0, Value.int .i64 0, Value.int .i64 0, Value.int .i64 0]), 9, 72) := by kernel_rfl
  obtain ⟨i, hi, hzz⟩ := Option.map_eq_some_iff.1 hinfo
  simp only [Prod.mk.injEq] at hzz
  obtain ⟨hz, hs, hb⟩ := hzz
  have h := run_make (P := Try.prog) W 26 54 i (.agg #[Value.int .i64 0, Value.int .i64 0, Value.int .i64 0, Value.int .i64 0, Value.int .i64 0, Value.int .i64 0, Value.int .i64 0, Value.int .i64 0, Value.int .i64 0]) Try.underlying26 hi hz .i64 .i64 (n : Int) (n : Int) (by omega) (by omega) (by rw [hb]; omega) (by omega)
  rw [hs] at h
  exact h
theorem zeroBox (i : Nat) : (#[Value.int .i64 0, Value.int .i64 0, Value.int .i64 0, Value.int .i64 0, Value.int .i64 0, Value.int .i64 0, Value.int .i64 0, Value.int .i64 0, Value.int .i64 0] : Array Value)[i % (#[Value.int .i64 0, Value.int .i64 0, Value.int .i64 0, Value.int .i64 0, Value.int .i64 0, Value.int .i64 0, Value.int .i64 0, Value.int .i64 0, Value.int .i64 0] : Array Value).size]! = .int .i64 0 := by
  have h : i % 9 < 9 := Nat.mod_lt _ (by omega)
  have hs : (#[Value.int .i64 0, Value.int .i64 0, Value.int .i64 0, Value.int .i64 0, Value.int .i64 0, Value.int .i64 0, Value.int .i64 0, Value.int .i64 0, Value.int .i64 0] : Array Value).size = 9 := rfl
  rw [hs]
  generalize i % 9 = j at h
  match j, h with
  | 0, _ => rfl
  | 1, _ => rfl
  | 2, _ => rfl
  | 3, _ => rfl
  | 4, _ => rfl
  | 5, _ => rfl
  | 6, _ => rfl
  | 7, _ => rfl
  | 8, _ => rfl
  | j + 9, h => omega
theorem rowBox_step {w2 : World} {g k n : Nat} {xs : List Int} (r : Row w2 g (upTo (k * 9) xs)) (hx : xs.length = n * 9) (hlt : k < n) : Row (((((((((w2.setCell ⟨g, k * 9, none⟩ (.int .i64 (xs.getD (k * 9) 0))).setCell ⟨g, k * 9 + 1, none⟩ (.int .i64 (xs.getD (k * 9 + 1) 0))).setCell ⟨g, k * 9 + 2, none⟩ (.int .i64 (xs.getD (k * 9 + 2) 0))).setCell ⟨g, k * 9 + 3, none⟩ (.int .i64 (xs.getD (k * 9 + 3) 0))).setCell ⟨g, k * 9 + 4, none⟩ (.int .i64 (xs.getD (k * 9 + 4) 0))).setCell ⟨g, k * 9 + 5, none⟩ (.int .i64 (xs.getD (k * 9 + 5) 0))).setCell ⟨g, k * 9 + 6, none⟩ (.int .i64 (xs.getD (k * 9 + 6) 0))).setCell ⟨g, k * 9 + 7, none⟩ (.int .i64 (xs.getD (k * 9 + 7) 0))).setCell ⟨g, k * 9 + 8, none⟩ (.int .i64 (xs.getD (k * 9 + 8) 0))) g (upTo ((k + 1) * 9) xs) := by
  have lq : ∀ j, j < 9 → k * 9 + j < xs.length := fun j hj => by rw [hx]; exact idx_lt hlt hj
  have r := r.set_ (k := k * 9) (by rw [upTo_len _ _ (by have := lq 0 (by omega); omega)]; exact lq 0 (by omega)) (xs.getD (k * 9) 0)
  rw [upTo_step (k * 9) xs (by have := lq 0 (by omega); omega)] at r
  have r := r.set_ (k := k * 9 + 1) (by rw [upTo_len _ _ (by have := lq 1 (by omega); omega)]; exact lq 1 (by omega)) (xs.getD (k * 9 + 1) 0)
  rw [upTo_step (k * 9 + 1) xs (by have := lq 1 (by omega); omega)] at r
  have r := r.set_ (k := k * 9 + 2) (by rw [upTo_len _ _ (by have := lq 2 (by omega); omega)]; exact lq 2 (by omega)) (xs.getD (k * 9 + 2) 0)
  rw [upTo_step (k * 9 + 2) xs (by have := lq 2 (by omega); omega)] at r
  have r := r.set_ (k := k * 9 + 3) (by rw [upTo_len _ _ (by have := lq 3 (by omega); omega)]; exact lq 3 (by omega)) (xs.getD (k * 9 + 3) 0)
  rw [upTo_step (k * 9 + 3) xs (by have := lq 3 (by omega); omega)] at r
  have r := r.set_ (k := k * 9 + 4) (by rw [upTo_len _ _ (by have := lq 4 (by omega); omega)]; exact lq 4 (by omega)) (xs.getD (k * 9 + 4) 0)
  rw [upTo_step (k * 9 + 4) xs (by have := lq 4 (by omega); omega)] at r
  have r := r.set_ (k := k * 9 + 5) (by rw [upTo_len _ _ (by have := lq 5 (by omega); omega)]; exact lq 5 (by omega)) (xs.getD (k * 9 + 5) 0)
  rw [upTo_step (k * 9 + 5) xs (by have := lq 5 (by omega); omega)] at r
  have r := r.set_ (k := k * 9 + 6) (by rw [upTo_len _ _ (by have := lq 6 (by omega); omega)]; exact lq 6 (by omega)) (xs.getD (k * 9 + 6) 0)
  rw [upTo_step (k * 9 + 6) xs (by have := lq 6 (by omega); omega)] at r
  have r := r.set_ (k := k * 9 + 7) (by rw [upTo_len _ _ (by have := lq 7 (by omega); omega)]; exact lq 7 (by omega)) (xs.getD (k * 9 + 7) 0)
  rw [upTo_step (k * 9 + 7) xs (by have := lq 7 (by omega); omega)] at r
  have r := r.set_ (k := k * 9 + 8) (by rw [upTo_len _ _ (by have := lq 8 (by omega); omega)]; exact lq 8 (by omega)) (xs.getD (k * 9 + 8) 0)
  rw [upTo_step (k * 9 + 8) xs (by have := lq 8 (by omega); omega)] at r
  rw [Nat.add_mul, Nat.one_mul]
  exact r
set_option maxHeartbeats 2000000 in
theorem toBoxS_any (A : Option Addr) (n c : Nat) (xs : List Int) (hn : n ≤ 1048576) (w : World) (hx : Sts 9 w A n xs) :
    Calls Try.prog 11 #[.slice A n c] w (AnsS 9 w xs) := by
  have hmk := fun W => mkBox n hn W
  have lx := hx.len
  have LX := Lib.hid lx
  have HX := Lib.hid hx
  clear hx lx
  go_enter Try.func11, Try.ntmps11
  go_wp2
  have R0 := Row.zeros w #[Value.int .i64 0, Value.int .i64 0, Value.int .i64 0, Value.int .i64 0, Value.int .i64 0, Value.int .i64 0, Value.int .i64 0, Value.int .i64 0, Value.int .i64 0] (n * 9) 54 zeroBox
  have N0 : New w (w.alloc (.cells (madeCells #[Value.int .i64 0, Value.int .i64 0, Value.int .i64 0, Value.int .i64 0, Value.int .i64 0, Value.int .i64 0, Value.int .i64 0, Value.int .i64 0, Value.int .i64 0] (n * 9)) 54)) := by (repeat (first | exact New.refl _ | assumption | refine New.alloc ?_ _ | refine New.drew ?_ | refine New.drewN ?_ _ | refine New.setCell ?_ (by first | omega | (simp; omega) | (simp; done)) _ | refine New.trans ?_ (by assumption)))
  have R0 := Lib.hid R0; have N0 := Lib.hid N0
  clear hmk
  generalize hW : w.alloc (.cells (madeCells #[Value.int .i64 0, Value.int .i64 0, Value.int .i64 0, Value.int .i64 0, Value.int .i64 0, Value.int .i64 0, Value.int .i64 0, Value.int .i64 0, Value.int .i64 0] (n * 9)) 54) = W at R0 N0 ⊢
  clear hW
  go_loopw [4] (fun i wr => ∃ k : Nat, k ≤ n ∧ i = .int .i64 k ∧ Hid (Row wr w.heap.size (upTo (k * 9) xs)) ∧ Hid (New w wr)) (fun i _ => n - (intOf i).toNat)
  case atStart => exact ⟨0, Nat.zero_le _, rfl, Lib.hid (by rw [Nat.zero_mul, upTo_zero, LX.out]; exact R0.out), N0⟩
  case round =>
    obtain ⟨k, hk, rfl, HR, HN⟩ := hrel
    by_cases hlt : k < n
    · obtain ⟨b, off, rfl, hb, hc⟩ := HX.out.at_ (by omega)
      have LU := Lib.hid (upTo_len (k * 9) xs (by rw [LX.out]; exact Nat.mul_le_mul_right 9 hk))
      have g0 : wr.cell? ⟨b, off + k * 9, none⟩ = some (.int .i64 (xs.getD (k * 9) 0)) := (HN.out.cells b _ hb).trans (hc (k * 9) (by have := idx_lt (m := 9) (j := 0) hlt (by omega); omega))
      have g1 : wr.cell? ⟨b, off + k * 9 + 1, none⟩ = some (.int .i64 (xs.getD (k * 9 + 1) 0)) := (HN.out.cells b _ hb).trans (hc (k * 9 + 1) (by have := idx_lt (m := 9) (j := 1) hlt (by omega); omega))
      have g2 : wr.cell? ⟨b, off + k * 9 + 2, none⟩ = some (.int .i64 (xs.getD (k * 9 + 2) 0)) := (HN.out.cells b _ hb).trans (hc (k * 9 + 2) (by have := idx_lt (m := 9) (j := 2) hlt (by omega); omega))
      have g3 : wr.cell? ⟨b, off + k * 9 + 3, none⟩ = some (.int .i64 (xs.getD (k * 9 + 3) 0)) := (HN.out.cells b _ hb).trans (hc (k * 9 + 3) (by have := idx_lt (m := 9) (j := 3) hlt (by omega); omega))
      have g4 : wr.cell? ⟨b, off + k * 9 + 4, none⟩ = some (.int .i64 (xs.getD (k * 9 + 4) 0)) := (HN.out.cells b _ hb).trans (hc (k * 9 + 4) (by have := idx_lt (m := 9) (j := 4) hlt (by omega); omega))
      have g5 : wr.cell? ⟨b, off + k * 9 + 5, none⟩ = some (.int .i64 (xs.getD (k * 9 + 5) 0)) := (HN.out.cells b _ hb).trans (hc (k * 9 + 5) (by have := idx_lt (m := 9) (j := 5) hlt (by omega); omega))
      have g6 : wr.cell? ⟨b, off + k * 9 + 6, none⟩ = some (.int .i64 (xs.getD (k * 9 + 6) 0)) := (HN.out.cells b _ hb).trans (hc (k * 9 + 6) (by have := idx_lt (m := 9) (j := 6) hlt (by omega); omega))
      have g7 : wr.cell? ⟨b, off + k * 9 + 7, none⟩ = some (.int .i64 (xs.getD (k * 9 + 7) 0)) := (HN.out.cells b _ hb).trans (hc (k * 9 + 7) (by have := idx_lt (m := 9) (j := 7) hlt (by omega); omega))
      have g8 : wr.cell? ⟨b, off + k * 9 + 8, none⟩ = some (.int .i64 (xs.getD (k * 9 + 8) 0)) := (HN.out.cells b _ hb).trans (hc (k * 9 + 8) (by have := idx_lt (m := 9) (j := 8) hlt (by omega); omega))
      have q0 : k * 9 < (upTo (k * 9) xs).length := by rw [LU.out, LX.out]; have := idx_lt (m := 9) (j := 0) hlt (by omega); omega
      have q1 : k * 9 + 1 < (upTo (k * 9) xs).length := by rw [LU.out, LX.out]; have := idx_lt (m := 9) (j := 1) hlt (by omega); omega
      have q2 : k * 9 + 2 < (upTo (k * 9) xs).length := by rw [LU.out, LX.out]; have := idx_lt (m := 9) (j := 2) hlt (by omega); omega
      have q3 : k * 9 + 3 < (upTo (k * 9) xs).length := by rw [LU.out, LX.out]; have := idx_lt (m := 9) (j := 3) hlt (by omega); omega
      have q4 : k * 9 + 4 < (upTo (k * 9) xs).length := by rw [LU.out, LX.out]; have := idx_lt (m := 9) (j := 4) hlt (by omega); omega
      have q5 : k * 9 + 5 < (upTo (k * 9) xs).length := by rw [LU.out, LX.out]; have := idx_lt (m := 9) (j := 5) hlt (by omega); omega
      have q6 : k * 9 + 6 < (upTo (k * 9) xs).length := by rw [LU.out, LX.out]; have := idx_lt (m := 9) (j := 6) hlt (by omega); omega
      have q7 : k * 9 + 7 < (upTo (k * 9) xs).length := by rw [LU.out, LX.out]; have := idx_lt (m := 9) (j := 7) hlt (by omega); omega
      have q8 : k * 9 + 8 < (upTo (k * 9) xs).length := by rw [LU.out, LX.out]; have := idx_lt (m := 9) (j := 8) hlt (by omega); omega
      have tr := HR.out.lt
      have f0 := HR.out.f (k * 9) q0; have o0 := HR.out.c (k * 9) q0
      have f1 := HR.out.f (k * 9 + 1) q1; have o1 := HR.out.c (k * 9 + 1) q1
      have f2 := HR.out.f (k * 9 + 2) q2; have o2 := HR.out.c (k * 9 + 2) q2
      have f3 := HR.out.f (k * 9 + 3) q3; have o3 := HR.out.c (k * 9 + 3) q3
      have f4 := HR.out.f (k * 9 + 4) q4; have o4 := HR.out.c (k * 9 + 4) q4
      have f5 := HR.out.f (k * 9 + 5) q5; have o5 := HR.out.c (k * 9 + 5) q5
      have f6 := HR.out.f (k * 9 + 6) q6; have o6 := HR.out.c (k * 9 + 6) q6
      have f7 := HR.out.f (k * 9 + 7) q7; have o7 := HR.out.c (k * 9 + 7) q7
      have f8 := HR.out.f (k * 9 + 8) q8; have o8 := HR.out.c (k * 9 + 8) q8
      have HS := Lib.hid (fun (w2 : World) (h2 : New wr w2) => rowBox_step (HR.out.new h2) LX.out hlt)
      clear hc q0 q1 q2 q3 q4 q5 q6 q7 q8
      generalize xs.getD (k * 9) 0 = y0 at g0 HS
      generalize xs.getD (k * 9 + 1) 0 = y1 at g1 HS
      generalize xs.getD (k * 9 + 2) 0 = y2 at g2 HS
      generalize xs.getD (k * 9 + 3) 0 = y3 at g3 HS
      generalize xs.getD (k * 9 + 4) 0 = y4 at g4 HS
      generalize xs.getD (k * 9 + 5) 0 = y5 at g5 HS
      generalize xs.getD (k * 9 + 6) 0 = y6 at g6 HS
      generalize xs.getD (k * 9 + 7) 0 = y7 at g7 HS
      generalize xs.getD (k * 9 + 8) 0 = y8 at g8 HS
      generalize (upTo (k * 9) xs).getD (k * 9) 0 = z0 at o0
      generalize (upTo (k * 9) xs).getD (k * 9 + 1) 0 = z1 at o1
      generalize (upTo (k * 9) xs).getD (k * 9 + 2) 0 = z2 at o2
      generalize (upTo (k * 9) xs).getD (k * 9 + 3) 0 = z3 at o3
      generalize (upTo (k * 9) xs).getD (k * 9 + 4) 0 = z4 at o4
      generalize (upTo (k * 9) xs).getD (k * 9 + 5) 0 = z5 at o5
      generalize (upTo (k * 9) xs).getD (k * 9 + 6) 0 = z6 at o6
      generalize (upTo (k * 9) xs).getD (k * 9 + 7) 0 = z7 at o7
      generalize (upTo (k * 9) xs).getD (k * 9 + 8) 0 = z8 at o8
      have k0 : (0 : Int) ≤ (k : Int) := by omega
      have k1 : (k : Int) < (n : Int) := by omega
      go_wp2_with fail
      refine (toBox_any _ _ _ _ _ _ _ _ _ _).mono ?_
      rintro e w2 ⟨rfl, h2⟩
      have f0' := (h2.marks _ _ tr).trans f0; have o0' := (h2.cells _ _ tr).trans o0
      have f1' := (h2.marks _ _ tr).trans f1; have o1' := (h2.cells _ _ tr).trans o1
      have f2' := (h2.marks _ _ tr).trans f2; have o2' := (h2.cells _ _ tr).trans o2
      have f3' := (h2.marks _ _ tr).trans f3; have o3' := (h2.cells _ _ tr).trans o3
      have f4' := (h2.marks _ _ tr).trans f4; have o4' := (h2.cells _ _ tr).trans o4
      have f5' := (h2.marks _ _ tr).trans f5; have o5' := (h2.cells _ _ tr).trans o5
      have f6' := (h2.marks _ _ tr).trans f6; have o6' := (h2.cells _ _ tr).trans o6
      have f7' := (h2.marks _ _ tr).trans f7; have o7' := (h2.cells _ _ tr).trans o7
      have f8' := (h2.marks _ _ tr).trans f8; have o8' := (h2.cells _ _ tr).trans o8
      have T2 := Lib.hid (HS.out w2 h2); have N2 := Lib.hid (HN.out.trans h2)
      clear h2 f0 o0 g0 f1 o1 g1 f2 o2 g2 f3 o3 g3 f4 o4 g4 f5 o5 g5 f6 o6 g6 f7 o7 g7 f8 o8 g8
      go_wp2
      go_roundw
      case rel => exact ⟨k + 1, by omega, by go_num, T2, Lib.hid (New.setCell (New.setCell (New.setCell (New.setCell (New.setCell (New.setCell (New.setCell (New.setCell (New.setCell (N2.out) (Nat.le_refl _) _) (Nat.le_refl _) _) (Nat.le_refl _) _) (Nat.le_refl _) _) (Nat.le_refl _) _) (Nat.le_refl _) _) (Nat.le_refl _) _) (Nat.le_refl _) _) (Nat.le_refl _) _)⟩
      case measure => simp [intOf]; omega
    · have hk' : k = n := by omega
      subst hk'
      go_wp2
      go_ret
      refine AnsS.row rfl LX.out (Nat.le_refl _) ?_ HN.out
      have h := HR.out
      rw [← LX.out, upTo_all] at h
      exact h
set_option maxHeartbeats 400000 in
theorem szBox_ok (A : Option Addr) (n c : Nat) (l : Nat) (hl : l ≤ 1048576) (h : n ≤ l) (w : World) :
    Calls Try.prog 9 #[.slice A n c, .int .i64 l] w fun e w' => e = .returned (.int .i64 ((l : Int) - (n : Int))) ∧ w = w' := by
  have h1 : (n : Int) ≤ (l : Int) := by omega
  have h2 : (0 : Int) ≤ (n : Int) := by omega
  have h3 : (l : Int) ≤ 1048576 := by omega
  go_enter Try.func9, Try.ntmps9
  go_wp2
  go_ret
  exact ⟨rfl, rfl⟩
set_option maxHeartbeats 400000 in
theorem szBox_no (A : Option Addr) (n c : Nat) (l : Nat) (hn : n ≤ maxLen) (h : l < n) (w : World) :
    Calls Try.prog 9 #[.slice A n c, .int .i64 l] w fun e w' => e = .returned (.int .i64 (-1)) ∧ w = w' := by
  unfold maxLen at hn
  have h1 : (l : Int) < (n : Int) := by omega
  have h2 : (0 : Int) ≤ (l : Int) := by omega
  have h3 : (n : Int) ≤ 9223372036854775807 := by omega
  go_enter Try.func9, Try.ntmps9
  go_wp2
  go_ret
  exact ⟨rfl, rfl⟩
set_option maxHeartbeats 400000 in
theorem eqBox_same (x0 x1 x2 x3 x4 x5 x6 x7 x8 : Int) (w : World) :
    Calls Try.prog 35 #[.agg #[.int .i64 x0, .int .i64 x1, .int .i64 x2, .int .i64 x3, .int .i64 x4, .int .i64 x5, .int .i64 x6, .int .i64 x7, .int .i64 x8], .agg #[.int .i64 x0, .int .i64 x1, .int .i64 x2, .int .i64 x3, .int .i64 x4, .int .i64 x5, .int .i64 x6, .int .i64 x7, .int .i64 x8]] w fun e w' => e = .returned (.bool true) ∧ New w w' := by
  go_enter Try.func35, Try.ntmps35
  go_wp2
  go_ret
  exact ⟨rfl, by (repeat (first | exact New.refl _ | assumption | refine New.alloc ?_ _ | refine New.drew ?_ | refine New.drewN ?_ _ | refine New.setCell ?_ (by first | omega | (simp; omega) | (simp; done)) _ | refine New.trans ?_ (by assumption)))⟩
set_option maxRecDepth 100000 in
set_option maxHeartbeats 2000000 in
theorem eqBoxS_any (A B : Option Addr) (n n' c d : Nat) (xs : List Int) (hn : n ≤ 1048576) (hn' : n' ≤ 1048576) (w : World) (hx : Sts 9 w A n xs) (hy : Sts 9 w B n' xs) :
    Calls Try.prog 14 #[.slice A n c, .slice B n' d] w fun e w' => e = .returned (.bool true) ∧ New w w' := by
  have HX := Lib.hid hx; have HY := Lib.hid hy
  obtain rfl : n = n' := by have h1 := hx.len; have h2 := hy.len; omega
  clear hx hy hn'
  go_enter Try.func14, Try.ntmps14
  go_wp2
  go_loopw [5] (fun i wr => ∃ k : Nat, k ≤ n ∧ i = .int .i64 k ∧ Hid (New w wr)) (fun i _ => n - (intOf i).toNat)
  case atStart => exact ⟨0, Nat.zero_le _, rfl, Lib.hid (New.refl _)⟩
  case round =>
    obtain ⟨k, hk, rfl, HN⟩ := hrel
    by_cases hlt : k < n
    · obtain ⟨b, off, rfl, hb, hc⟩ := HX.out.at_ (by omega)
      obtain ⟨b', off', rfl, hb', hc'⟩ := HY.out.at_ (by omega)
      have g0 : wr.cell? ⟨b, off + k * 9, none⟩ = some (.int .i64 (xs.getD (k * 9) 0)) := (HN.out.cells b _ hb).trans (hc (k * 9) (by have := idx_lt (m := 9) (j := 0) hlt (by omega); omega)); have g0' : wr.cell? ⟨b', off' + k * 9, none⟩ = some (.int .i64 (xs.getD (k * 9) 0)) := (HN.out.cells b' _ hb').trans (hc' (k * 9) (by have := idx_lt (m := 9) (j := 0) hlt (by omega); omega))
      have g1 : wr.cell? ⟨b, off + k * 9 + 1, none⟩ = some (.int .i64 (xs.getD (k * 9 + 1) 0)) := (HN.out.cells b _ hb).trans (hc (k * 9 + 1) (by have := idx_lt (m := 9) (j := 1) hlt (by omega); omega)); have g1' : wr.cell? ⟨b', off' + k * 9 + 1, none⟩ = some (.int .i64 (xs.getD (k * 9 + 1) 0)) := (HN.out.cells b' _ hb').trans (hc' (k * 9 + 1) (by have := idx_lt (m := 9) (j := 1) hlt (by omega); omega))
      have g2 : wr.cell? ⟨b, off + k * 9 + 2, none⟩ = some (.int .i64 (xs.getD (k * 9 + 2) 0)) := (HN.out.cells b _ hb).trans (hc (k * 9 + 2) (by have := idx_lt (m := 9) (j := 2) hlt (by omega); omega)); have g2' : wr.cell? ⟨b', off' + k * 9 + 2, none⟩ = some (.int .i64 (xs.getD (k * 9 + 2) 0)) := (HN.out.cells b' _ hb').trans (hc' (k * 9 + 2) (by have := idx_lt (m := 9) (j := 2) hlt (by omega); omega))
      have g3 : wr.cell? ⟨b, off + k * 9 + 3, none⟩ = some (.int .i64 (xs.getD (k * 9 + 3) 0)) := (HN.out.cells b _ hb).trans (hc (k * 9 + 3) (by have := idx_lt (m := 9) (j := 3) hlt (by omega); omega)); have g3' : wr.cell? ⟨b', off' + k * 9 + 3, none⟩ = some (.int .i64 (xs.getD (k * 9 + 3) 0)) := (HN.out.cells b' _ hb').trans (hc' (k * 9 + 3) (by have := idx_lt (m := 9) (j := 3) hlt (by omega); omega))
      have g4 : wr.cell? ⟨b, off + k * 9 + 4, none⟩ = some (.int .i64 (xs.getD (k * 9 + 4) 0)) := (HN.out.cells b _ hb).trans (hc (k * 9 + 4) (by have := idx_lt (m := 9) (j := 4) hlt (by omega); omega)); have g4' : wr.cell? ⟨b', off' + k * 9 + 4, none⟩ = some (.int .i64 (xs.getD (k * 9 + 4) 0)) := (HN.out.cells b' _ hb').trans (hc' (k * 9 + 4) (by have := idx_lt (m := 9) (j := 4) hlt (by omega); omega))
      have g5 : wr.cell? ⟨b, off + k * 9 + 5, none⟩ = some (.int .i64 (xs.getD (k * 9 + 5) 0)) := (HN.out.cells b _ hb).trans (hc (k * 9 + 5) (by have := idx_lt (m := 9) (j := 5) hlt (by omega); omega)); have g5' : wr.cell? ⟨b', off' + k * 9 + 5, none⟩ = some (.int .i64 (xs.getD (k * 9 + 5) 0)) := (HN.out.cells b' _ hb').trans (hc' (k * 9 + 5) (by have := idx_lt (m := 9) (j := 5) hlt (by omega); omega))
      have g6 : wr.cell? ⟨b, off + k * 9 + 6, none⟩ = some (.int .i64 (xs.getD (k * 9 + 6) 0)) := (HN.out.cells b _ hb).trans (hc (k * 9 + 6) (by have := idx_lt (m := 9) (j := 6) hlt (by omega); omega)); have g6' : wr.cell? ⟨b', off' + k * 9 + 6, none⟩ = some (.int .i64 (xs.getD (k * 9 + 6) 0)) := (HN.out.cells b' _ hb').trans (hc' (k * 9 + 6) (by have := idx_lt (m := 9) (j := 6) hlt (by omega); omega))
      have g7 : wr.cell? ⟨b, off + k * 9 + 7, none⟩ = some (.int .i64 (xs.getD (k * 9 + 7) 0)) := (HN.out.cells b _ hb).trans (hc (k * 9 + 7) (by have := idx_lt (m := 9) (j := 7) hlt (by omega); omega)); have g7' : wr.cell? ⟨b', off' + k * 9 + 7, none⟩ = some (.int .i64 (xs.getD (k * 9 + 7) 0)) := (HN.out.cells b' _ hb').trans (hc' (k * 9 + 7) (by have := idx_lt (m := 9) (j := 7) hlt (by omega); omega))
      have g8 : wr.cell? ⟨b, off + k * 9 + 8, none⟩ = some (.int .i64 (xs.getD (k * 9 + 8) 0)) := (HN.out.cells b _ hb).trans (hc (k * 9 + 8) (by have := idx_lt (m := 9) (j := 8) hlt (by omega); omega)); have g8' : wr.cell? ⟨b', off' + k * 9 + 8, none⟩ = some (.int .i64 (xs.getD (k * 9 + 8) 0)) := (HN.out.cells b' _ hb').trans (hc' (k * 9 + 8) (by have := idx_lt (m := 9) (j := 8) hlt (by omega); omega))
      clear hc hc'
      generalize xs.getD (k * 9) 0 = y0 at g0 g0'
      generalize xs.getD (k * 9 + 1) 0 = y1 at g1 g1'
      generalize xs.getD (k * 9 + 2) 0 = y2 at g2 g2'
      generalize xs.getD (k * 9 + 3) 0 = y3 at g3 g3'
      generalize xs.getD (k * 9 + 4) 0 = y4 at g4 g4'
      generalize xs.getD (k * 9 + 5) 0 = y5 at g5 g5'
      generalize xs.getD (k * 9 + 6) 0 = y6 at g6 g6'
      generalize xs.getD (k * 9 + 7) 0 = y7 at g7 g7'
      generalize xs.getD (k * 9 + 8) 0 = y8 at g8 g8'
      have k0 : (0 : Int) ≤ (k : Int) := by omega
      have k1 : (k : Int) < (n : Int) := by omega
      go_wp2
      go_still_tail 8, (by kernel_rfl)
      change wpList _ _ _ _ _ wr.drew
      have HN1 := Lib.hid HN.out.drew
      generalize wr.drew = w1 at HN1 ⊢
      go_wp2_with fail
      refine (eqBox_same _ _ _ _ _ _ _ _ _ _).mono ?_
      rintro e w2 ⟨rfl, h2⟩
      have HN2 := Lib.hid (HN1.out.trans h2)
      clear h2
      go_wp2
      go_roundw
      case rel => exact ⟨k + 1, by omega, by go_num, HN2⟩
      case measure => simp [intOf]; omega
    · have hk' : k = n := by omega
      subst hk'
      go_wp2
      go_ret
      exact ⟨rfl, HN.out⟩
theorem markBox_none (A : Option Addr) (c : Nat) (k0 : Int) (w : World) : Calls Try.prog 15 #[.slice A 0 c, .int .i64 k0] w fun e w' => e = .returned (.int .i64 k0) ∧ w = w' := by
  go_enter Try.func15, Try.ntmps15
  go_wp2
  go_loopw [1, 5] (fun s i wr => s = .int .i64 k0 ∧ i = .int .i64 0 ∧ wr = w) (fun _ _ _ => 0)
  case atStart => exact ⟨rfl, rfl, rfl⟩
  case round =>
    obtain ⟨rfl, rfl, rfl⟩ := hrel
    go_wp2
    go_ret
    exact ⟨rfl, rfl⟩
set_option maxHeartbeats 2000000 in
theorem markBox_row (g n c : Nat) (zs : List Int) (k0 : Int) (h0 : 0 ≤ k0) (h1 : k0 ≤ 100000000) (hn : n ≤ 1048576) (hz : zs.length = n * 9) (w : World) (hx : Row w g zs) :
    Calls Try.prog 15 #[.slice (some ⟨g, 0, none⟩) n c, .int .i64 k0] w fun e w' => e = .returned (.int .i64 (k0 + ((n * 9 : Nat) : Int))) ∧ Row w' g (marks k0 (n * 9)) ∧ w.grownBy w' (some g) := by
  have HX := Lib.hid hx
  have HZ := Lib.hid hz
  clear hx hz
  go_enter Try.func15, Try.ntmps15
  go_wp2
  go_loopw [1, 5] (fun s i wr => ∃ k : Nat, k ≤ n ∧ i = .int .i64 k ∧ s = .int .i64 (k0 + (k : Int) * 9) ∧ Hid (Row wr g (markTo k0 (k * 9) zs)) ∧ Hid (w.grownBy wr (some g))) (fun _ i _ => n - (intOf i).toNat)
  case atStart => exact ⟨0, Nat.zero_le _, rfl, by simp, Lib.hid (by simpa [markTo, marks] using HX.out), Lib.hid (World.grownBy.refl _ _)⟩
  case round =>
    obtain ⟨k, hk, rfl, rfl, HR, HG⟩ := hrel
    by_cases hlt : k < n
    · have lq : ∀ j, j < 9 → k * 9 + j < zs.length := fun j hj => by rw [HZ.out]; exact idx_lt hlt hj
      have LM := Lib.hid (markTo_len k0 (k * 9) zs (by have := lq 0 (by omega); omega))
      have f0 := HR.out.f (k * 9) (by rw [LM.out]; exact lq 0 (by omega)); have o0 := HR.out.c (k * 9) (by rw [LM.out]; exact lq 0 (by omega))
      have f1 := HR.out.f (k * 9 + 1) (by rw [LM.out]; exact lq 1 (by omega)); have o1 := HR.out.c (k * 9 + 1) (by rw [LM.out]; exact lq 1 (by omega))
      have f2 := HR.out.f (k * 9 + 2) (by rw [LM.out]; exact lq 2 (by omega)); have o2 := HR.out.c (k * 9 + 2) (by rw [LM.out]; exact lq 2 (by omega))
      have f3 := HR.out.f (k * 9 + 3) (by rw [LM.out]; exact lq 3 (by omega)); have o3 := HR.out.c (k * 9 + 3) (by rw [LM.out]; exact lq 3 (by omega))
      have f4 := HR.out.f (k * 9 + 4) (by rw [LM.out]; exact lq 4 (by omega)); have o4 := HR.out.c (k * 9 + 4) (by rw [LM.out]; exact lq 4 (by omega))
      have f5 := HR.out.f (k * 9 + 5) (by rw [LM.out]; exact lq 5 (by omega)); have o5 := HR.out.c (k * 9 + 5) (by rw [LM.out]; exact lq 5 (by omega))
      have f6 := HR.out.f (k * 9 + 6) (by rw [LM.out]; exact lq 6 (by omega)); have o6 := HR.out.c (k * 9 + 6) (by rw [LM.out]; exact lq 6 (by omega))
      have f7 := HR.out.f (k * 9 + 7) (by rw [LM.out]; exact lq 7 (by omega)); have o7 := HR.out.c (k * 9 + 7) (by rw [LM.out]; exact lq 7 (by omega))
      have f8 := HR.out.f (k * 9 + 8) (by rw [LM.out]; exact lq 8 (by omega)); have o8 := HR.out.c (k * 9 + 8) (by rw [LM.out]; exact lq 8 (by omega))
      have r := HR.out
      have r := r.set_ (k := k * 9) (by rw [markTo_len _ _ _ (by have := lq 0 (by omega); omega)]; exact lq 0 (by omega)) (k0 + (k : Int) * 9)
      rw [show k0 + (k : Int) * 9 = k0 + ((k * 9 : Nat) : Int) by omega, markTo_step k0 (k * 9) zs (by have := lq 0 (by omega); omega), show k0 + ((k * 9 : Nat) : Int) = k0 + (k : Int) * 9 by omega] at r
      have r := r.set_ (k := k * 9 + 1) (by rw [markTo_len _ _ _ (by have := lq 1 (by omega); omega)]; exact lq 1 (by omega)) (k0 + (k : Int) * 9 + 1)
      rw [show k0 + (k : Int) * 9 + 1 = k0 + ((k * 9 + 1 : Nat) : Int) by omega, markTo_step k0 (k * 9 + 1) zs (by have := lq 1 (by omega); omega), show k0 + ((k * 9 + 1 : Nat) : Int) = k0 + (k : Int) * 9 + 1 by omega] at r
      have r := r.set_ (k := k * 9 + 2) (by rw [markTo_len _ _ _ (by have := lq 2 (by omega); omega)]; exact lq 2 (by omega)) (k0 + (k : Int) * 9 + 1 + 1)
      rw [show k0 + (k : Int) * 9 + 1 + 1 = k0 + ((k * 9 + 2 : Nat) : Int) by omega, markTo_step k0 (k * 9 + 2) zs (by have := lq 2 (by omega); omega), show k0 + ((k * 9 + 2 : Nat) : Int) = k0 + (k : Int) * 9 + 1 + 1 by omega] at r
      have r := r.set_ (k := k * 9 + 3) (by rw [markTo_len _ _ _ (by have := lq 3 (by omega); omega)]; exact lq 3 (by omega)) (k0 + (k : Int) * 9 + 1 + 1 + 1)
      rw [show k0 + (k : Int) * 9 + 1 + 1 + 1 = k0 + ((k * 9 + 3 : Nat) : Int) by omega, markTo_step k0 (k * 9 + 3) zs (by have := lq 3 (by omega); omega), show k0 + ((k * 9 + 3 : Nat) : Int) = k0 + (k : Int) * 9 + 1 + 1 + 1 by omega] at r
      have r := r.set_ (k := k * 9 + 4) (by rw [markTo_len _ _ _ (by have := lq 4 (by omega); omega)]; exact lq 4 (by omega)) (k0 + (k : Int) * 9 + 1 + 1 + 1 + 1)
      rw [show k0 + (k : Int) * 9 + 1 + 1 + 1 + 1 = k0 + ((k * 9 + 4 : Nat) : Int) by omega, markTo_step k0 (k * 9 + 4) zs (by have := lq 4 (by omega); omega), show k0 + ((k * 9 + 4 : Nat) : Int) = k0 + (k : Int) * 9 + 1 + 1 + 1 + 1 by omega] at r
      have r := r.set_ (k := k * 9 + 5) (by rw [markTo_len _ _ _ (by have := lq 5 (by omega); omega)]; exact lq 5 (by omega)) (k0 + (k : Int) * 9 + 1 + 1 + 1 + 1 + 1)
      rw [show k0 + (k : Int) * 9 + 1 + 1 + 1 + 1 + 1 = k0 + ((k * 9 + 5 : Nat) : Int) by omega, markTo_step k0 (k * 9 + 5) zs (by have := lq 5 (by omega); omega), show k0 + ((k * 9 + 5 : Nat) : Int) = k0 + (k : Int) * 9 + 1 + 1 + 1 + 1 + 1 by omega] at r
      have r := r.set_ (k := k * 9 + 6) (by rw [markTo_len _ _ _ (by have := lq 6 (by omega); omega)]; exact lq 6 (by omega)) (k0 + (k : Int) * 9 + 1 + 1 + 1 + 1 + 1 + 1)
      rw [show k0 + (k : Int) * 9 + 1 + 1 + 1 + 1 + 1 + 1 = k0 + ((k * 9 + 6 : Nat) : Int) by omega, markTo_step k0 (k * 9 + 6) zs (by have := lq 6 (by omega); omega), show k0 + ((k * 9 + 6 : Nat) : Int) = k0 + (k : Int) * 9 + 1 + 1 + 1 + 1 + 1 + 1 by omega] at r
      have r := r.set_ (k := k * 9 + 7) (by rw [markTo_len _ _ _ (by have := lq 7 (by omega); omega)]; exact lq 7 (by omega)) (k0 + (k : Int) * 9 + 1 + 1 + 1 + 1 + 1 + 1 + 1)
      rw [show k0 + (k : Int) * 9 + 1 + 1 + 1 + 1 + 1 + 1 + 1 = k0 + ((k * 9 + 7 : Nat) : Int) by omega, markTo_step k0 (k * 9 + 7) zs (by have := lq 7 (by omega); omega), show k0 + ((k * 9 + 7 : Nat) : Int) = k0 + (k : Int) * 9 + 1 + 1 + 1 + 1 + 1 + 1 + 1 by omega] at r
      have r := r.set_ (k := k * 9 + 8) (by rw [markTo_len _ _ _ (by have := lq 8 (by omega); omega)]; exact lq 8 (by omega)) (k0 + (k : Int) * 9 + 1 + 1 + 1 + 1 + 1 + 1 + 1 + 1)
      rw [show k0 + (k : Int) * 9 + 1 + 1 + 1 + 1 + 1 + 1 + 1 + 1 = k0 + ((k * 9 + 8 : Nat) : Int) by omega, markTo_step k0 (k * 9 + 8) zs (by have := lq 8 (by omega); omega), show k0 + ((k * 9 + 8 : Nat) : Int) = k0 + (k : Int) * 9 + 1 + 1 + 1 + 1 + 1 + 1 + 1 + 1 by omega] at r
      rw [show k * 9 + 8 + 1 = (k + 1) * 9 by omega] at r
      have HS := Lib.hid r
      clear lq r
      have e0 : (k : Int) ≤ 1048576 := by omega
      have i0 : (0 : Int) ≤ (k : Int) := by omega
      have i1 : (k : Int) < (n : Int) := by omega
      generalize (markTo k0 (k * 9) zs).getD (k * 9) 0 = z0 at o0
      generalize (markTo k0 (k * 9) zs).getD (k * 9 + 1) 0 = z1 at o1
      generalize (markTo k0 (k * 9) zs).getD (k * 9 + 2) 0 = z2 at o2
      generalize (markTo k0 (k * 9) zs).getD (k * 9 + 3) 0 = z3 at o3
      generalize (markTo k0 (k * 9) zs).getD (k * 9 + 4) 0 = z4 at o4
      generalize (markTo k0 (k * 9) zs).getD (k * 9 + 5) 0 = z5 at o5
      generalize (markTo k0 (k * 9) zs).getD (k * 9 + 6) 0 = z6 at o6
      generalize (markTo k0 (k * 9) zs).getD (k * 9 + 7) 0 = z7 at o7
      generalize (markTo k0 (k * 9) zs).getD (k * 9 + 8) 0 = z8 at o8
      go_wp2
      go_roundw
      case rel => exact ⟨k + 1, by omega, by go_num, by go_num, HS, Lib.hid (own_set (own_set (own_set (own_set (own_set (own_set (own_set (own_set (own_set (HG.out) _) _) _) _) _) _) _) _) _)⟩
      case measure => simp [intOf]; omega
    · have hk' : k = n := by omega
      subst hk'
      go_wp2
      go_ret
      exact ⟨ret_int (by omega), by have h := HR.out; rw [← HZ.out, markTo_all] at h; rw [← HZ.out]; exact h, HG.out⟩
theorem markBoxS_any (lo hi : Nat) (A : Option Addr) (n c : Nat) (zs : List Int) (k0 : Int) (h0 : 0 ≤ k0) (h1 : k0 ≤ 100000000) (hn : n ≤ 1048576) (hz : zs.length = n * 9) (w : World) (hx : Res lo hi w A zs) :
    Calls Try.prog 15 #[.slice A n c, .int .i64 k0] w fun e w' => e = .returned (.int .i64 (k0 + ((n * 9 : Nat) : Int))) ∧ Res lo hi w' A (marks k0 (n * 9)) ∧ Chg lo hi w w' := by
  rcases Nat.eq_zero_or_pos n with rfl | hp
  · refine (markBox_none A c k0 w).mono ?_
    rintro e w' ⟨rfl, rfl⟩
    exact ⟨by simp, ⟨hx.1, fun h => absurd h (by simp [marks])⟩, Chg.refl _ _ _⟩
  · obtain ⟨g, rfl, g1, g2, hR⟩ := hx.2 (by omega)
    refine (markBox_row g n c zs k0 h0 h1 hn hz w hR).mono ?_
    rintro e w' ⟨rfl, hR', hG⟩
    exact ⟨rfl, ⟨Nat.le_trans hx.1 hG.size, fun _ => ⟨g, rfl, g1, g2, hR'⟩⟩, Chg.of_grown hG g1 g2⟩
end Go.Proofs.Ytokcbfnmnccacaa

/- Lists of Box that grow by append: what owning such a list means, and what each append leaves. Conditions: the list is short. -/
namespace Go.Proofs.Ytokcbfnmnccacaa
open Go.RowKit

/-- The slice value v owns n structs with the numbers zs, in a block from lo on. -/
def OwnBox (lo : Nat) (w : World) (v : Value) (n : Nat) (zs : List Int) : Prop := w.ownsRow lo 54 9 v n (zs.map (Value.int .i64)) ∧ zs.length = n * 9
section
variable {lo n : Nat} {w w' w0 : World} {v : Value} {zs : List Int}
theorem OwnBox.form (h : OwnBox lo w v n zs) : (v = .slice none 0 0 ∧ n = 0 ∧ zs = []) ∨ ∃ g c, v = .slice (some ⟨g, 0, none⟩) n c ∧ lo ≤ g ∧ Row w g zs ∧ n ≤ c ∧ v.ownBlock = some g := by
  obtain ⟨h, hl⟩ := h
  rcases h.2 with ⟨hv, hn⟩ | ⟨g, cap, cur, hv, hg, hh, hc, hm, hs, ht⟩
  · exact .inl ⟨hv, hn, List.eq_nil_of_length_eq_zero (by omega)⟩
  · refine .inr ⟨g, cap, hv, hg, ?_, hc, by rw [hv]; rfl⟩
    have hlt : g < w.heap.size := by
      rcases Nat.lt_or_ge g w.heap.size with h1 | h1
      · exact h1
      · rw [Array.getElem?_eq_none h1] at hh; cases hh
    refine ⟨hlt, fun i hi => ?_, fun i _ => by simp [World.frozen?, hh]⟩
    rw [cell_of_row w g i cur 54 (0, 0) hh]
    have e : cur[i]? = (cur.toList.take (n * 9))[i]? := by
      rw [List.getElem?_take_of_lt (by omega)]
      simp
    rw [e, ht]
    simp [hi]
theorem OwnBox.res (h : OwnBox lo w v n zs) : ∃ A c, v = .slice A n c ∧ n ≤ c ∧ Res lo w.heap.size w A zs := by
  rcases h.form with ⟨rfl, rfl, rfl⟩ | ⟨g, c, rfl, hg, hR, hc, _⟩
  · exact ⟨none, 0, rfl, Nat.le_refl _, Res.nil _ _ _⟩
  · exact ⟨_, c, rfl, hc, Res.of_row hR hg⟩
theorem OwnBox.below (h : OwnBox lo w v n zs) {g : Nat} (hg : v.ownBlock = some g) : lo ≤ g := by
  rcases h.form with ⟨rfl, _, _⟩ | ⟨g', c, rfl, hg', _, _, e⟩
  · simp [Value.ownBlock] at hg
  · rw [e] at hg; have := Option.some.inj hg; omega
theorem OwnBox.kept (h : OwnBox lo w v n zs) {r : Option Nat} (k : w.grownBy w' r) (hr : ∀ g, r = some g → g < lo) : OwnBox lo w' v n zs := by
  refine ⟨⟨h.1.1, ?_⟩, h.2⟩
  rcases h.1.2 with hn | ⟨g, cap, cur, hv, hg, hh, hc, hm, hs, ht⟩
  · exact .inl hn
  · have hlt : g < w.heap.size := by
      rcases Nat.lt_or_ge g w.heap.size with h1 | h1
      · exact h1
      · rw [Array.getElem?_eq_none h1] at hh; cases hh
    exact .inr ⟨g, cap, cur, hv, hg, (k.block g hlt (fun e => by have := hr g e.symm; omega)).trans hh, hc, hm, hs, ht⟩
theorem OwnBox.new (h : OwnBox lo w v n zs) (k : New w w') : OwnBox lo w' v n zs := h.kept (k.grown none) (fun _ e => by cases e)
theorem OwnBox.alloc (h : OwnBox lo w v n zs) (o : Obj) : OwnBox lo (w.alloc o) v n zs := h.new ((New.refl _).alloc o)
theorem OwnBox.empty (w : World) (hl : lo ≤ w.heap.size) : OwnBox lo (w.alloc (.cells #[] 54)) (.slice (some ⟨w.heap.size, 0, none⟩) 0 0) 0 [] :=
  ⟨⟨rfl, .inr ⟨w.heap.size, 0, #[], rfl, hl, heap_alloc_new w _, Nat.le_refl _, Nat.zero_le _, rfl, rfl⟩⟩, rfl⟩
theorem new_ownBox (h : New w0 w) (k : w.grownBy w' v.ownBlock) (ho : OwnBox lo w v n zs) (hl : w0.heap.size ≤ lo) : New w0 w' :=
  ⟨k.os.trans h.os, k.tape.trans h.tape, k.output.trans h.output, Nat.le_trans h.size k.size, fun i hi => (k.block i (Nat.lt_of_lt_of_le hi h.size) (fun e => by have := ho.below e.symm; omega)).trans (h.block i hi)⟩
theorem only_ownBox {a : Nat} (h : w0.grownBy w (some a)) (k : w.grownBy w' v.ownBlock) (ho : OwnBox lo w v n zs) (hl : w0.heap.size ≤ lo) : w0.grownBy w' (some a) :=
  ⟨k.os.trans h.os, k.tape.trans h.tape, k.output.trans h.output, Nat.le_trans h.size k.size, fun i hi hne => (k.block i (Nat.lt_of_lt_of_le hi h.size) (fun e => by have := ho.below e.symm; omega)).trans (h.block i hi hne)⟩
theorem Rdr.ownBox {a : Nat} {A : Option Addr} {m p : Nat} (h : Rdr w a A m p) (k : w.grownBy w' v.ownBlock) (ho : OwnBox lo w v n zs) (hl : a < lo) : Rdr w' a A m p :=
  h.grown k (fun _ e => by have := ho.below e; omega)
end
theorem info_Box : (Try.prog.info? 54).map (fun i => (i.zero, i.size, i.bytes)) = some (some (.agg #[Value.int .i64 0, Value.int .i64 0, Value.int .i64 0, Value.int .i64 0, Value.int .i64 0, Value.int .i64 0, Value.int .i64 0, Value.int .i64 0, Value.int .i64 0]), 9, 72) := by kernel_rfl
theorem wp_appBox {w : World} {ops : Array Oper} {rest : List Oper} {o : Oper} {a : Act} {Q : Exit → Act → World → Prop} (hgd : o.guard = none) (s x : Operand)
    (ho : o.op = .call { callee := .builtin .append, args := #[s, x], argTypes := #[26, 26] }) (lo : Nat) (v : Value) (n : Nat) (zs : List Int) (hs : a.eval s = v) (hown : OwnBox lo w v n zs)
    (g : Nat) (y0 y1 y2 y3 y4 y5 y6 y7 y8 : Int) (hx : a.eval x = .slice (some ⟨g, 0, none⟩) 1 1) (hr : Row w g [y0, y1, y2, y3, y4, y5, y6, y7, y8]) (hn : n ≤ 1000) (hlo : lo ≤ w.heap.size)
    (h : ∀ v' w', OwnBox lo w' v' (n + 1) (zs ++ [y0, y1, y2, y3, y4, y5, y6, y7, y8]) → w.grownBy w' v.ownBlock → wpList Try.prog ops Q rest (a.put o.dst v') w') : wpList Try.prog ops Q (o :: rest) a w :=
  wpList_plain hgd fun K hK => by
    obtain ⟨i0, hi, hz0, hz1, hz2⟩ := info_parts info_Box
    obtain ⟨v', w', hrun, h2, h3, _, _⟩ := run_append_own_at (P := Try.prog) w lo 26 o.type 54 i0 (.agg #[Value.int .i64 0, Value.int .i64 0, Value.int .i64 0, Value.int .i64 0, Value.int .i64 0, Value.int .i64 0, Value.int .i64 0, Value.int .i64 0, Value.int .i64 0]) 9 72 Try.underlying26 hi hz0 hz1 hz2 rfl (by decide) v n (zs.map (Value.int .i64)) hown.1 ⟨g, 0, none⟩ 1 1 ([y0, y1, y2, y3, y4, y5, y6, y7, y8].map (Value.int .i64)) rfl (fun j u hu => by
      have hj : j < 9 := by
        rcases Nat.lt_or_ge j 9 with h1 | h1
        · exact h1
        · rw [List.getElem?_eq_none (by simpa using h1)] at hu; cases hu
      have hc := hr.c j (by simpa using hj)
      have e : u = .int .i64 ([y0, y1, y2, y3, y4, y5, y6, y7, y8].getD j 0) := by
        match j, hj with
        | 0, _ => simp at hu; exact hu.symm
        | 1, _ => simp at hu; exact hu.symm
        | 2, _ => simp at hu; exact hu.symm
        | 3, _ => simp at hu; exact hu.symm
        | 4, _ => simp at hu; exact hu.symm
        | 5, _ => simp at hu; exact hu.symm
        | 6, _ => simp at hu; exact hu.symm
        | 7, _ => simp at hu; exact hu.symm
        | 8, _ => simp at hu; exact hu.symm
        | j + 9, hj => omega
      rw [e, Go.WideShapes.add_plain, Nat.zero_add]
      exact hc) (fun u hu => by
      obtain ⟨z, _, rfl⟩ := List.mem_map.1 hu
      rfl) (by unfold maxLen; omega) (by omega) hlo
    unfold Oper.wp execOp
    simp only [ho, resolve, invoke, builtin, Sem.run_bind, Sem.run_pure, Result.andThen_ok, List.map_toArray, List.map_cons, List.map_nil, hs, hx, hrun]
    refine hK _ _ (h v' w' ⟨?_, by rw [List.length_append, hown.2]; simp; omega⟩ h3)
    rw [List.map_append]
    exact h2
theorem Row.oneBox (w : World) (y0 y1 y2 y3 y4 y5 y6 y7 y8 : Int) (t : TypeId) : Row (w.alloc (.cells #[.int .i64 y0, .int .i64 y1, .int .i64 y2, .int .i64 y3, .int .i64 y4, .int .i64 y5, .int .i64 y6, .int .i64 y7, .int .i64 y8] t)) w.heap.size [y0, y1, y2, y3, y4, y5, y6, y7, y8] :=
  ⟨by simp, fun i hi => by
    have hi' : i < 9 := by simpa using hi
    match i, hi' with
    | 0, _ => simp [go_sem]
    | 1, _ => simp [go_sem]
    | 2, _ => simp [go_sem]
    | 3, _ => simp [go_sem]
    | 4, _ => simp [go_sem]
    | 5, _ => simp [go_sem]
    | 6, _ => simp [go_sem]
    | 7, _ => simp [go_sem]
    | 8, _ => simp [go_sem]
    | i + 9, h => omega, fun i hi => by simp [go_sem]⟩
end Go.Proofs.Ytokcbfnmnccacaa
