/- Marks that are still there, in a slice of Box. Condition: the slice can be read. -/
import Derived.Test.YtffggmjhaaehlaaGreatDoorBoxS
import Derived.Test.YtffggmjhaaehlaaGreatDoorAnsT
namespace Go.Proofs.YtffggmjhaaehlaaGreatDoor
open Go.RowKit

set_option maxRecDepth 100000 in
set_option maxHeartbeats 4000000 in
theorem heldBoxS_any (A : Option Addr) (n c : Nat) (k0 : Int) (h0 : 0 ≤ k0) (h1 : k0 ≤ 100000000) (hn : n ≤ 1048576) (w : World) (hx : Sts 9 w A n (marks k0 (n * 9))) :
    Calls Tryz.prog 10 #[.slice A n c, .int .i64 k0] w fun e w' => e = .returned (.int .i64 (k0 + ((n * 9 : Nat) : Int))) ∧ w = w' := by
  have HX := Lib.hid hx
  clear hx
  go_enter Tryz.func10, Tryz.ntmps10
  go_wp2
  go_loop [1, 5] (fun s i => ∃ k : Nat, k ≤ n ∧ i = .int .i64 k ∧ s = .int .i64 (k0 + (k : Int) * 9)) (fun _ i => n - (intOf i).toNat)
  case atStart => exact ⟨0, Nat.zero_le _, rfl, by simp⟩
  case round =>
    obtain ⟨k, hk, rfl, rfl⟩ := hrel
    by_cases hlt : k < n
    · obtain ⟨b, off, rfl, hb, hc⟩ := HX.out.at_ (by omega)
      have g0 : w.cell? ⟨b, off + k * 9, none⟩ = some (.int .i64 (k0 + (k : Int) * 9)) := by
        have h := hc (k * 9) (idx_lt hlt (show 0 < 9 by omega))
        rw [marks_at k0 (n * 9) (k * 9) (idx_lt hlt (show 0 < 9 by omega))] at h
        rw [show k0 + ((k * 9 : Nat) : Int) = k0 + (k : Int) * 9 by omega] at h
        exact h
      have g1 : w.cell? ⟨b, off + k * 9 + 1, none⟩ = some (.int .i64 (k0 + (k : Int) * 9 + 1)) := by
        have h := hc (k * 9 + 1) (idx_lt hlt (show 1 < 9 by omega))
        rw [marks_at k0 (n * 9) (k * 9 + 1) (idx_lt hlt (show 1 < 9 by omega))] at h
        rw [show k0 + ((k * 9 + 1 : Nat) : Int) = k0 + (k : Int) * 9 + 1 by omega] at h
        exact h
      have g2 : w.cell? ⟨b, off + k * 9 + 2, none⟩ = some (.int .i64 (k0 + (k : Int) * 9 + 1 + 1)) := by
        have h := hc (k * 9 + 2) (idx_lt hlt (show 2 < 9 by omega))
        rw [marks_at k0 (n * 9) (k * 9 + 2) (idx_lt hlt (show 2 < 9 by omega))] at h
        rw [show k0 + ((k * 9 + 2 : Nat) : Int) = k0 + (k : Int) * 9 + 1 + 1 by omega] at h
        exact h
      have g3 : w.cell? ⟨b, off + k * 9 + 3, none⟩ = some (.int .i64 (k0 + (k : Int) * 9 + 1 + 1 + 1)) := by
        have h := hc (k * 9 + 3) (idx_lt hlt (show 3 < 9 by omega))
        rw [marks_at k0 (n * 9) (k * 9 + 3) (idx_lt hlt (show 3 < 9 by omega))] at h
        rw [show k0 + ((k * 9 + 3 : Nat) : Int) = k0 + (k : Int) * 9 + 1 + 1 + 1 by omega] at h
        exact h
      have g4 : w.cell? ⟨b, off + k * 9 + 4, none⟩ = some (.int .i64 (k0 + (k : Int) * 9 + 1 + 1 + 1 + 1)) := by
        have h := hc (k * 9 + 4) (idx_lt hlt (show 4 < 9 by omega))
        rw [marks_at k0 (n * 9) (k * 9 + 4) (idx_lt hlt (show 4 < 9 by omega))] at h
        rw [show k0 + ((k * 9 + 4 : Nat) : Int) = k0 + (k : Int) * 9 + 1 + 1 + 1 + 1 by omega] at h
        exact h
      have g5 : w.cell? ⟨b, off + k * 9 + 5, none⟩ = some (.int .i64 (k0 + (k : Int) * 9 + 1 + 1 + 1 + 1 + 1)) := by
        have h := hc (k * 9 + 5) (idx_lt hlt (show 5 < 9 by omega))
        rw [marks_at k0 (n * 9) (k * 9 + 5) (idx_lt hlt (show 5 < 9 by omega))] at h
        rw [show k0 + ((k * 9 + 5 : Nat) : Int) = k0 + (k : Int) * 9 + 1 + 1 + 1 + 1 + 1 by omega] at h
        exact h
      have g6 : w.cell? ⟨b, off + k * 9 + 6, none⟩ = some (.int .i64 (k0 + (k : Int) * 9 + 1 + 1 + 1 + 1 + 1 + 1)) := by
        have h := hc (k * 9 + 6) (idx_lt hlt (show 6 < 9 by omega))
        rw [marks_at k0 (n * 9) (k * 9 + 6) (idx_lt hlt (show 6 < 9 by omega))] at h
        rw [show k0 + ((k * 9 + 6 : Nat) : Int) = k0 + (k : Int) * 9 + 1 + 1 + 1 + 1 + 1 + 1 by omega] at h
        exact h
      have g7 : w.cell? ⟨b, off + k * 9 + 7, none⟩ = some (.int .i64 (k0 + (k : Int) * 9 + 1 + 1 + 1 + 1 + 1 + 1 + 1)) := by
        have h := hc (k * 9 + 7) (idx_lt hlt (show 7 < 9 by omega))
        rw [marks_at k0 (n * 9) (k * 9 + 7) (idx_lt hlt (show 7 < 9 by omega))] at h
        rw [show k0 + ((k * 9 + 7 : Nat) : Int) = k0 + (k : Int) * 9 + 1 + 1 + 1 + 1 + 1 + 1 + 1 by omega] at h
        exact h
      have g8 : w.cell? ⟨b, off + k * 9 + 8, none⟩ = some (.int .i64 (k0 + (k : Int) * 9 + 1 + 1 + 1 + 1 + 1 + 1 + 1 + 1)) := by
        have h := hc (k * 9 + 8) (idx_lt hlt (show 8 < 9 by omega))
        rw [marks_at k0 (n * 9) (k * 9 + 8) (idx_lt hlt (show 8 < 9 by omega))] at h
        rw [show k0 + ((k * 9 + 8 : Nat) : Int) = k0 + (k : Int) * 9 + 1 + 1 + 1 + 1 + 1 + 1 + 1 + 1 by omega] at h
        exact h
      clear hc
      have e0 : (k : Int) ≤ 1048576 := by omega
      have i0 : (0 : Int) ≤ (k : Int) := by omega
      have i1 : (k : Int) < (n : Int) := by omega
      go_wp2
      go_round
      case rel => exact ⟨k + 1, by omega, by go_num, by go_num⟩
      case measure => simp [intOf]; omega
    · have hk' : k = n := by omega
      subst hk'
      go_wp2
      go_ret
      exact ⟨ret_int (by omega), rfl⟩
theorem Row.allBox {w : World} {g : Nat} {y0 y1 y2 y3 y4 y5 y6 y7 y8 : Int} (h : Row w g [y0, y1, y2, y3, y4, y5, y6, y7, y8]) : w.cell? ⟨g, 0, none⟩ = some (.int .i64 y0) ∧ w.cell? ⟨g, 1, none⟩ = some (.int .i64 y1) ∧ w.cell? ⟨g, 2, none⟩ = some (.int .i64 y2) ∧ w.cell? ⟨g, 3, none⟩ = some (.int .i64 y3) ∧ w.cell? ⟨g, 4, none⟩ = some (.int .i64 y4) ∧ w.cell? ⟨g, 5, none⟩ = some (.int .i64 y5) ∧ w.cell? ⟨g, 6, none⟩ = some (.int .i64 y6) ∧ w.cell? ⟨g, 7, none⟩ = some (.int .i64 y7) ∧ w.cell? ⟨g, 8, none⟩ = some (.int .i64 y8) :=
  ⟨h.c 0 (by simp), h.c 1 (by simp), h.c 2 (by simp), h.c 3 (by simp), h.c 4 (by simp), h.c 5 (by simp), h.c 6 (by simp), h.c 7 (by simp), h.c 8 (by simp)⟩
theorem Row.oneBox1 (w : World) (y0 y1 y2 y3 y4 y5 y6 y7 y8 : Int) (t : TypeId) : Row (w.alloc (.cells #[.int .i64 y0, .int .i64 y1, .int .i64 y2, .int .i64 y3, .int .i64 y4, .int .i64 y5, .int .i64 y6, .int .i64 y7, .int .i64 y8] t)) w.heap.size [y0, y1, y2, y3, y4, y5, y6, y7, y8] :=
  ⟨by simp, fun i hi => by
    match i, hi with
    | 0, _ => simp [go_sem]
    | 1, _ => simp [go_sem]
    | 2, _ => simp [go_sem]
    | 3, _ => simp [go_sem]
    | 4, _ => simp [go_sem]
    | 5, _ => simp [go_sem]
    | 6, _ => simp [go_sem]
    | 7, _ => simp [go_sem]
    | 8, _ => simp [go_sem]
    | i + 9, hi => simp at hi; omega, fun i hi => by simp [go_sem]⟩
end Go.Proofs.YtffggmjhaaehlaaGreatDoor
