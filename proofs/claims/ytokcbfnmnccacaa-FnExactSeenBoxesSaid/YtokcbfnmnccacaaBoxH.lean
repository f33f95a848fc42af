/- Marks that are still there, in a slice of Box. Condition: the slice can be read. -/
import Derived.Test.YtokcbfnmnccacaaZX
import Derived.Test.YtokcbfnmnccacaaAnsT
namespace Go.Proofs.Ytokcbfnmnccacaa
open Go.RowKit

theorem Row.allBox {w : World} {g : Nat} {y0 y1 y2 y3 y4 y5 y6 y7 y8 : Int} (h : Row w g [y0, y1, y2, y3, y4, y5, y6, y7, y8]) : w.cell? ⟨g, 0, none⟩ = some (.int .i64 y0) ∧ w.cell? ⟨g, 1, none⟩ = some (.int .i64 y1) ∧ w.cell? ⟨g, 2, none⟩ = some (.int .i64 y2) ∧ w.cell? ⟨g, 3, none⟩ = some (.int .i64 y3) ∧ w.cell? ⟨g, 4, none⟩ = some (.int .i64 y4) ∧ w.cell? ⟨g, 5, none⟩ = some (.int .i64 y5) ∧ w.cell? ⟨g, 6, none⟩ = some (.int .i64 y6) ∧ w.cell? ⟨g, 7, none⟩ = some (.int .i64 y7) ∧ w.cell? ⟨g, 8, none⟩ = some (.int .i64 y8) :=
  ⟨h.c 0 (by simp), h.c 1 (by simp), h.c 2 (by simp), h.c 3 (by simp), h.c 4 (by simp), h.c 5 (by simp), h.c 6 (by simp), h.c 7 (by simp), h.c 8 (by simp)⟩
theorem Row.oneBox1 (w : World) (y0 y1 y2 y3 y4 y5 y6 y7 y8 : Int) (t : TypeId) : Row (w.alloc (.cells #[.int .i64 y0, .int .i64 y1, .int .i64 y2, .int .i64 y3, .int .i64 y4, .int .i64 y5, .int .i64 y6, .int .i64 y7, .int .i64 y8] t)) w.heap.size [y0, y1, y2, y3, y4, y5, y6, y7, y8] :=
  ⟨by simp, fun i hi => by
    match i, hi with
    | 0, _ => simp [go_sem]
    | 1, _ => simp [go_sem]
    | 2, _ => simp [go_sem]
    | 3, _ => simp [go_sem]
    | 4, _ => simp [go_sem]
    | 5, _ => simp [go_sem]
    | 6, _ => simp [go_sem]
    | 7, _ => simp [go_sem]
    | 8, _ => simp [go_sem]
    | i + 9, hi => simp at hi; omega, fun i hi => by simp [go_sem]⟩
set_option maxHeartbeats 2000000 in
theorem toBoxS_anyC (A : Option Addr) (n c : Nat) (xs : List Int) (hn : n ≤ 1048576) (w : World) (hx : Sts 9 w A n xs) :
    Calls Try.prog 11 #[.slice A n c] w (AnsC 9 w xs) := by
  have hmk := fun W => mkBox n hn W
  have lx := hx.len
  have LX := Lib.hid lx
  have HX := Lib.hid hx
  clear hx lx
  go_enter Try.func11, Try.ntmps11
  go_wp2
  have R0 := Row.zeros w #[Value.int .i64 0, Value.int .i64 0, Value.int .i64 0, Value.int .i64 0, Value.int .i64 0, Value.int .i64 0, Value.int .i64 0, Value.int .i64 0, Value.int .i64 0] (n * 9) 54 zeroBox
  have N0 : New w (w.alloc (.cells (madeCells #[Value.int .i64 0, Value.int .i64 0, Value.int .i64 0, Value.int .i64 0, Value.int .i64 0, Value.int .i64 0, Value.int .i64 0, Value.int .i64 0, Value.int .i64 0] (n * 9)) 54)) := by (repeat (first | exact New.refl _ | assumption | refine New.alloc ?_ _ | refine New.drew ?_ | refine New.drewN ?_ _ | refine New.setCell ?_ (by first | omega | (simp; omega) | (simp; done)) _ | refine New.trans ?_ (by assumption)))
  have R0 := Lib.hid R0; have N0 := Lib.hid N0
  clear hmk
  generalize hW : w.alloc (.cells (madeCells #[Value.int .i64 0, Value.int .i64 0, Value.int .i64 0, Value.int .i64 0, Value.int .i64 0, Value.int .i64 0, Value.int .i64 0, Value.int .i64 0, Value.int .i64 0] (n * 9)) 54) = W at R0 N0 ⊢
  clear hW
  go_loopw [4] (fun i wr => ∃ k : Nat, k ≤ n ∧ i = .int .i64 k ∧ Hid (Row wr w.heap.size (upTo (k * 9) xs)) ∧ Hid (New w wr)) (fun i _ => n - (intOf i).toNat)
  case atStart => exact ⟨0, Nat.zero_le _, rfl, Lib.hid (by rw [Nat.zero_mul, upTo_zero, LX.out]; exact R0.out), N0⟩
  case round =>
    obtain ⟨k, hk, rfl, HR, HN⟩ := hrel
    by_cases hlt : k < n
    · obtain ⟨b, off, rfl, hb, hc⟩ := HX.out.at_ (by omega)
      have LU := Lib.hid (upTo_len (k * 9) xs (by rw [LX.out]; exact Nat.mul_le_mul_right 9 hk))
      have g0 : wr.cell? ⟨b, off + k * 9, none⟩ = some (.int .i64 (xs.getD (k * 9) 0)) := (HN.out.cells b _ hb).trans (hc (k * 9) (by have := idx_lt (m := 9) (j := 0) hlt (by omega); omega))
      have g1 : wr.cell? ⟨b, off + k * 9 + 1, none⟩ = some (.int .i64 (xs.getD (k * 9 + 1) 0)) := (HN.out.cells b _ hb).trans (hc (k * 9 + 1) (by have := idx_lt (m := 9) (j := 1) hlt (by omega); omega))
      have g2 : wr.cell? ⟨b, off + k * 9 + 2, none⟩ = some (.int .i64 (xs.getD (k * 9 + 2) 0)) := (HN.out.cells b _ hb).trans (hc (k * 9 + 2) (by have := idx_lt (m := 9) (j := 2) hlt (by omega); omega))
      have g3 : wr.cell? ⟨b, off + k * 9 + 3, none⟩ = some (.int .i64 (xs.getD (k * 9 + 3) 0)) := (HN.out.cells b _ hb).trans (hc (k * 9 + 3) (by have := idx_lt (m := 9) (j := 3) hlt (by omega); omega))
      have g4 : wr.cell? ⟨b, off + k * 9 + 4, none⟩ = some (.int .i64 (xs.getD (k * 9 + 4) 0)) := (HN.out.cells b _ hb).trans (hc (k * 9 + 4) (by have := idx_lt (m := 9) (j := 4) hlt (by omega); omega))
      have g5 : wr.cell? ⟨b, off + k * 9 + 5, none⟩ = some (.int .i64 (xs.getD (k * 9 + 5) 0)) := (HN.out.cells b _ hb).trans (hc (k * 9 + 5) (by have := idx_lt (m := 9) (j := 5) hlt (by omega); omega))
      have g6 : wr.cell? ⟨b, off + k * 9 + 6, none⟩ = some (.int .i64 (xs.getD (k * 9 + 6) 0)) := (HN.out.cells b _ hb).trans (hc (k * 9 + 6) (by have := idx_lt (m := 9) (j := 6) hlt (by omega); omega))
      have g7 : wr.cell? ⟨b, off + k * 9 + 7, none⟩ = some (.int .i64 (xs.getD (k * 9 + 7) 0)) := (HN.out.cells b _ hb).trans (hc (k * 9 + 7) (by have := idx_lt (m := 9) (j := 7) hlt (by omega); omega))
      have g8 : wr.cell? ⟨b, off + k * 9 + 8, none⟩ = some (.int .i64 (xs.getD (k * 9 + 8) 0)) := (HN.out.cells b _ hb).trans (hc (k * 9 + 8) (by have := idx_lt (m := 9) (j := 8) hlt (by omega); omega))
      have q0 : k * 9 < (upTo (k * 9) xs).length := by rw [LU.out, LX.out]; have := idx_lt (m := 9) (j := 0) hlt (by omega); omega
      have q1 : k * 9 + 1 < (upTo (k * 9) xs).length := by rw [LU.out, LX.out]; have := idx_lt (m := 9) (j := 1) hlt (by omega); omega
      have q2 : k * 9 + 2 < (upTo (k * 9) xs).length := by rw [LU.out, LX.out]; have := idx_lt (m := 9) (j := 2) hlt (by omega); omega
      have q3 : k * 9 + 3 < (upTo (k * 9) xs).length := by rw [LU.out, LX.out]; have := idx_lt (m := 9) (j := 3) hlt (by omega); omega
      have q4 : k * 9 + 4 < (upTo (k * 9) xs).length := by rw [LU.out, LX.out]; have := idx_lt (m := 9) (j := 4) hlt (by omega); omega
      have q5 : k * 9 + 5 < (upTo (k * 9) xs).length := by rw [LU.out, LX.out]; have := idx_lt (m := 9) (j := 5) hlt (by omega); omega
      have q6 : k * 9 + 6 < (upTo (k * 9) xs).length := by rw [LU.out, LX.out]; have := idx_lt (m := 9) (j := 6) hlt (by omega); omega
      have q7 : k * 9 + 7 < (upTo (k * 9) xs).length := by rw [LU.out, LX.out]; have := idx_lt (m := 9) (j := 7) hlt (by omega); omega
      have q8 : k * 9 + 8 < (upTo (k * 9) xs).length := by rw [LU.out, LX.out]; have := idx_lt (m := 9) (j := 8) hlt (by omega); omega
      have tr := HR.out.lt
      have f0 := HR.out.f (k * 9) q0; have o0 := HR.out.c (k * 9) q0
      have f1 := HR.out.f (k * 9 + 1) q1; have o1 := HR.out.c (k * 9 + 1) q1
      have f2 := HR.out.f (k * 9 + 2) q2; have o2 := HR.out.c (k * 9 + 2) q2
      have f3 := HR.out.f (k * 9 + 3) q3; have o3 := HR.out.c (k * 9 + 3) q3
      have f4 := HR.out.f (k * 9 + 4) q4; have o4 := HR.out.c (k * 9 + 4) q4
      have f5 := HR.out.f (k * 9 + 5) q5; have o5 := HR.out.c (k * 9 + 5) q5
      have f6 := HR.out.f (k * 9 + 6) q6; have o6 := HR.out.c (k * 9 + 6) q6
      have f7 := HR.out.f (k * 9 + 7) q7; have o7 := HR.out.c (k * 9 + 7) q7
      have f8 := HR.out.f (k * 9 + 8) q8; have o8 := HR.out.c (k * 9 + 8) q8
      have HS := Lib.hid (fun (w2 : World) (h2 : New wr w2) => rowBox_step (HR.out.new h2) LX.out hlt)
      clear hc q0 q1 q2 q3 q4 q5 q6 q7 q8
      generalize xs.getD (k * 9) 0 = y0 at g0 HS
      generalize xs.getD (k * 9 + 1) 0 = y1 at g1 HS
      generalize xs.getD (k * 9 + 2) 0 = y2 at g2 HS
      generalize xs.getD (k * 9 + 3) 0 = y3 at g3 HS
      generalize xs.getD (k * 9 + 4) 0 = y4 at g4 HS
      generalize xs.getD (k * 9 + 5) 0 = y5 at g5 HS
      generalize xs.getD (k * 9 + 6) 0 = y6 at g6 HS
      generalize xs.getD (k * 9 + 7) 0 = y7 at g7 HS
      generalize xs.getD (k * 9 + 8) 0 = y8 at g8 HS
      generalize (upTo (k * 9) xs).getD (k * 9) 0 = z0 at o0
      generalize (upTo (k * 9) xs).getD (k * 9 + 1) 0 = z1 at o1
      generalize (upTo (k * 9) xs).getD (k * 9 + 2) 0 = z2 at o2
      generalize (upTo (k * 9) xs).getD (k * 9 + 3) 0 = z3 at o3
      generalize (upTo (k * 9) xs).getD (k * 9 + 4) 0 = z4 at o4
      generalize (upTo (k * 9) xs).getD (k * 9 + 5) 0 = z5 at o5
      generalize (upTo (k * 9) xs).getD (k * 9 + 6) 0 = z6 at o6
      generalize (upTo (k * 9) xs).getD (k * 9 + 7) 0 = z7 at o7
      generalize (upTo (k * 9) xs).getD (k * 9 + 8) 0 = z8 at o8
      have k0 : (0 : Int) ≤ (k : Int) := by omega
      have k1 : (k : Int) < (n : Int) := by omega
      go_wp2_with fail
      refine (toBox_any _ _ _ _ _ _ _ _ _ _).mono ?_
      rintro e w2 ⟨rfl, h2⟩
      have f0' := (h2.marks _ _ tr).trans f0; have o0' := (h2.cells _ _ tr).trans o0
      have f1' := (h2.marks _ _ tr).trans f1; have o1' := (h2.cells _ _ tr).trans o1
      have f2' := (h2.marks _ _ tr).trans f2; have o2' := (h2.cells _ _ tr).trans o2
      have f3' := (h2.marks _ _ tr).trans f3; have o3' := (h2.cells _ _ tr).trans o3
      have f4' := (h2.marks _ _ tr).trans f4; have o4' := (h2.cells _ _ tr).trans o4
      have f5' := (h2.marks _ _ tr).trans f5; have o5' := (h2.cells _ _ tr).trans o5
      have f6' := (h2.marks _ _ tr).trans f6; have o6' := (h2.cells _ _ tr).trans o6
      have f7' := (h2.marks _ _ tr).trans f7; have o7' := (h2.cells _ _ tr).trans o7
      have f8' := (h2.marks _ _ tr).trans f8; have o8' := (h2.cells _ _ tr).trans o8
      have T2 := Lib.hid (HS.out w2 h2); have N2 := Lib.hid (HN.out.trans h2)
      clear h2 f0 o0 g0 f1 o1 g1 f2 o2 g2 f3 o3 g3 f4 o4 g4 f5 o5 g5 f6 o6 g6 f7 o7 g7 f8 o8 g8
      go_wp2
      go_roundw
      case rel => exact ⟨k + 1, by omega, by go_num, T2, Lib.hid (New.setCell (New.setCell (New.setCell (New.setCell (New.setCell (New.setCell (New.setCell (New.setCell (New.setCell (N2.out) (Nat.le_refl _) _) (Nat.le_refl _) _) (Nat.le_refl _) _) (Nat.le_refl _) _) (Nat.le_refl _) _) (Nat.le_refl _) _) (Nat.le_refl _) _) (Nat.le_refl _) _) (Nat.le_refl _) _)⟩
      case measure => simp [intOf]; omega
    · have hk' : k = n := by omega
      subst hk'
      go_wp2
      go_ret
      refine ⟨_, k, k, rfl, LX.out, Nat.le_refl _, Res.of_row ?_ (Nat.le_refl _), HN.out⟩
      have h := HR.out
      rw [← LX.out, upTo_all] at h
      exact h
end Go.Proofs.Ytokcbfnmnccacaa
