/- Marks that are still there, in a slice of Task. Condition: the slice can be read. -/
import Derived.Test.YtecnhjofgkhlnaaTaskS
import Derived.Test.YtecnhjofgkhlnaaAnsT
namespace Go.Proofs.Ytecnhjofgkhlnaa
open Go.RowKit

set_option maxRecDepth 100000 in
set_option maxHeartbeats 4000000 in
theorem heldTaskS_any (A : Option Addr) (n c : Nat) (k0 : Int) (h0 : 0 ≤ k0) (h1 : k0 ≤ 100000000) (hn : n ≤ 1048576) (w : World) (hx : Sts 3 w A n (marks k0 (n * 3))) :
    Calls Try.prog 23 #[.slice A n c, .int .i64 k0] w fun e w' => e = .returned (.int .i64 (k0 + ((n * 3 : Nat) : Int))) ∧ w = w' := by
  have HX := Lib.hid hx
  clear hx
  go_enter Try.func23, Try.ntmps23
  go_wp2
  go_loop [1, 5] (fun s i => ∃ k : Nat, k ≤ n ∧ i = .int .i64 k ∧ s = .int .i64 (k0 + (k : Int) * 3)) (fun _ i => n - (intOf i).toNat)
  case atStart => exact ⟨0, Nat.zero_le _, rfl, by simp⟩
  case round =>
    obtain ⟨k, hk, rfl, rfl⟩ := hrel
    by_cases hlt : k < n
    · obtain ⟨b, off, rfl, hb, hc⟩ := HX.out.at_ (by omega)
      have g0 : w.cell? ⟨b, off + k * 3, none⟩ = some (.int .i64 (k0 + (k : Int) * 3)) := by
        have h := hc (k * 3) (idx_lt hlt (show 0 < 3 by omega))
        rw [marks_at k0 (n * 3) (k * 3) (idx_lt hlt (show 0 < 3 by omega))] at h
        rw [show k0 + ((k * 3 : Nat) : Int) = k0 + (k : Int) * 3 by omega] at h
        exact h
      have g1 : w.cell? ⟨b, off + k * 3 + 1, none⟩ = some (.int .i64 (k0 + (k : Int) * 3 + 1)) := by
        have h := hc (k * 3 + 1) (idx_lt hlt (show 1 < 3 by omega))
        rw [marks_at k0 (n * 3) (k * 3 + 1) (idx_lt hlt (show 1 < 3 by omega))] at h
        rw [show k0 + ((k * 3 + 1 : Nat) : Int) = k0 + (k : Int) * 3 + 1 by omega] at h
        exact h
      have g2 : w.cell? ⟨b, off + k * 3 + 2, none⟩ = some (.int .i64 (k0 + (k : Int) * 3 + 1 + 1)) := by
        have h := hc (k * 3 + 2) (idx_lt hlt (show 2 < 3 by omega))
        rw [marks_at k0 (n * 3) (k * 3 + 2) (idx_lt hlt (show 2 < 3 by omega))] at h
        rw [show k0 + ((k * 3 + 2 : Nat) : Int) = k0 + (k : Int) * 3 + 1 + 1 by omega] at h
        exact h
      clear hc
      have e0 : (k : Int) ≤ 1048576 := by omega
      have i0 : (0 : Int) ≤ (k : Int) := by omega
      have i1 : (k : Int) < (n : Int) := by omega
      go_wp2
      go_round
      case rel => exact ⟨k + 1, by omega, by go_num, by go_num⟩
      case measure => simp [intOf]; omega
    · have hk' : k = n := by omega
      subst hk'
      go_wp2
      go_ret
      exact ⟨ret_int (by omega), rfl⟩
theorem Row.allTask {w : World} {g : Nat} {y0 y1 y2 : Int} (h : Row w g [y0, y1, y2]) : w.cell? ⟨g, 0, none⟩ = some (.int .i64 y0) ∧ w.cell? ⟨g, 1, none⟩ = some (.int .i64 y1) ∧ w.cell? ⟨g, 2, none⟩ = some (.int .i64 y2) :=
  ⟨h.c 0 (by simp), h.c 1 (by simp), h.c 2 (by simp)⟩
theorem Row.oneTask1 (w : World) (y0 y1 y2 : Int) (t : TypeId) : Row (w.alloc (.cells #[.int .i64 y0, .int .i64 y1, .int .i64 y2] t)) w.heap.size [y0, y1, y2] :=
  ⟨by simp, fun i hi => by
    match i, hi with
    | 0, _ => simp [go_sem]
    | 1, _ => simp [go_sem]
    | 2, _ => simp [go_sem]
    | i + 3, hi => simp at hi; omega, fun i hi => by simp [go_sem]⟩
set_option maxHeartbeats 2000000 in
theorem toTaskS_anyC (A : Option Addr) (n c : Nat) (xs : List Int) (hn : n ≤ 1048576) (w : World) (hx : Sts 3 w A n xs) :
    Calls Try.prog 17 #[.slice A n c] w (AnsC 3 w xs) := by
  have hmk := fun W => mkTask n hn W
  have lx := hx.len
  have LX := Lib.hid lx
  have HX := Lib.hid hx
  clear hx lx
  go_enter Try.func17, Try.ntmps17
  go_wp2
  have R0 := Row.zeros w #[Value.int .i64 0, Value.int .i64 0, Value.int .i64 0] (n * 3) 43 zeroTask
  have N0 : New w (w.alloc (.cells (madeCells #[Value.int .i64 0, Value.int .i64 0, Value.int .i64 0] (n * 3)) 43)) := by (repeat (first | exact New.refl _ | assumption | refine New.alloc ?_ _ | refine New.drew ?_ | refine New.drewN ?_ _ | refine New.setCell ?_ (by first | omega | (simp; omega) | (simp; done)) _ | refine New.trans ?_ (by assumption)))
  have R0 := Lib.hid R0; have N0 := Lib.hid N0
  clear hmk
  generalize hW : w.alloc (.cells (madeCells #[Value.int .i64 0, Value.int .i64 0, Value.int .i64 0] (n * 3)) 43) = W at R0 N0 ⊢
  clear hW
  go_loopw [4] (fun i wr => ∃ k : Nat, k ≤ n ∧ i = .int .i64 k ∧ Hid (Row wr w.heap.size (upTo (k * 3) xs)) ∧ Hid (New w wr)) (fun i _ => n - (intOf i).toNat)
  case atStart => exact ⟨0, Nat.zero_le _, rfl, Lib.hid (by rw [Nat.zero_mul, upTo_zero, LX.out]; exact R0.out), N0⟩
  case round =>
    obtain ⟨k, hk, rfl, HR, HN⟩ := hrel
    by_cases hlt : k < n
    · obtain ⟨b, off, rfl, hb, hc⟩ := HX.out.at_ (by omega)
      have LU := Lib.hid (upTo_len (k * 3) xs (by rw [LX.out]; exact Nat.mul_le_mul_right 3 hk))
      have g0 : wr.cell? ⟨b, off + k * 3, none⟩ = some (.int .i64 (xs.getD (k * 3) 0)) := (HN.out.cells b _ hb).trans (hc (k * 3) (by have := idx_lt (m := 3) (j := 0) hlt (by omega); omega))
      have g1 : wr.cell? ⟨b, off + k * 3 + 1, none⟩ = some (.int .i64 (xs.getD (k * 3 + 1) 0)) := (HN.out.cells b _ hb).trans (hc (k * 3 + 1) (by have := idx_lt (m := 3) (j := 1) hlt (by omega); omega))
      have g2 : wr.cell? ⟨b, off + k * 3 + 2, none⟩ = some (.int .i64 (xs.getD (k * 3 + 2) 0)) := (HN.out.cells b _ hb).trans (hc (k * 3 + 2) (by have := idx_lt (m := 3) (j := 2) hlt (by omega); omega))
      have q0 : k * 3 < (upTo (k * 3) xs).length := by rw [LU.out, LX.out]; have := idx_lt (m := 3) (j := 0) hlt (by omega); omega
      have q1 : k * 3 + 1 < (upTo (k * 3) xs).length := by rw [LU.out, LX.out]; have := idx_lt (m := 3) (j := 1) hlt (by omega); omega
      have q2 : k * 3 + 2 < (upTo (k * 3) xs).length := by rw [LU.out, LX.out]; have := idx_lt (m := 3) (j := 2) hlt (by omega); omega
      have tr := HR.out.lt
      have f0 := HR.out.f (k * 3) q0; have o0 := HR.out.c (k * 3) q0
      have f1 := HR.out.f (k * 3 + 1) q1; have o1 := HR.out.c (k * 3 + 1) q1
      have f2 := HR.out.f (k * 3 + 2) q2; have o2 := HR.out.c (k * 3 + 2) q2
      have HS := Lib.hid (fun (w2 : World) (h2 : New wr w2) => rowTask_step (HR.out.new h2) LX.out hlt)
      clear hc q0 q1 q2
      generalize xs.getD (k * 3) 0 = y0 at g0 HS
      generalize xs.getD (k * 3 + 1) 0 = y1 at g1 HS
      generalize xs.getD (k * 3 + 2) 0 = y2 at g2 HS
      generalize (upTo (k * 3) xs).getD (k * 3) 0 = z0 at o0
      generalize (upTo (k * 3) xs).getD (k * 3 + 1) 0 = z1 at o1
      generalize (upTo (k * 3) xs).getD (k * 3 + 2) 0 = z2 at o2
      have k0 : (0 : Int) ≤ (k : Int) := by omega
      have k1 : (k : Int) < (n : Int) := by omega
      go_wp2_with fail
      refine (toTask_any _ _ _ _).mono ?_
      rintro e w2 ⟨rfl, h2⟩
      have f0' := (h2.marks _ _ tr).trans f0; have o0' := (h2.cells _ _ tr).trans o0
      have f1' := (h2.marks _ _ tr).trans f1; have o1' := (h2.cells _ _ tr).trans o1
      have f2' := (h2.marks _ _ tr).trans f2; have o2' := (h2.cells _ _ tr).trans o2
      have T2 := Lib.hid (HS.out w2 h2); have N2 := Lib.hid (HN.out.trans h2)
      clear h2 f0 o0 g0 f1 o1 g1 f2 o2 g2
      go_wp2
      go_roundw
      case rel => exact ⟨k + 1, by omega, by go_num, T2, Lib.hid (New.setCell (New.setCell (New.setCell (N2.out) (Nat.le_refl _) _) (Nat.le_refl _) _) (Nat.le_refl _) _)⟩
      case measure => simp [intOf]; omega
    · have hk' : k = n := by omega
      subst hk'
      go_wp2
      go_ret
      refine ⟨_, k, k, rfl, LX.out, Nat.le_refl _, Res.of_row ?_ (Nat.le_refl _), HN.out⟩
      have h := HR.out
      rw [← LX.out, upTo_all] at h
      exact h
end Go.Proofs.Ytecnhjofgkhlnaa
