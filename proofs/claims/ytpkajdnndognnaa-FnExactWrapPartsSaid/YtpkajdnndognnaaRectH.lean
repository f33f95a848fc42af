/- Marks that are still there, in a slice of Rect. Condition: the slice can be read. -/
import Derived.Test.YtpkajdnndognnaaRectS
import Derived.Test.YtpkajdnndognnaaAnsT
namespace Go.Proofs.Ytpkajdnndognnaa
open Go.RowKit

set_option maxRecDepth 100000 in
set_option maxHeartbeats 4000000 in
theorem heldRectS_any (A : Option Addr) (n c : Nat) (k0 : Int) (h0 : 0 ≤ k0) (h1 : k0 ≤ 100000000) (hn : n ≤ 1048576) (w : World) (hx : Sts 4 w A n (marks k0 (n * 4))) :
    Calls Try.prog 20 #[.slice A n c, .int .i64 k0] w fun e w' => e = .returned (.int .i64 (k0 + ((n * 4 : Nat) : Int))) ∧ w = w' := by
  have HX := Lib.hid hx
  clear hx
  go_enter Try.func20, Try.ntmps20
  go_wp2
  go_loop [1, 5] (fun s i => ∃ k : Nat, k ≤ n ∧ i = .int .i64 k ∧ s = .int .i64 (k0 + (k : Int) * 4)) (fun _ i => n - (intOf i).toNat)
  case atStart => exact ⟨0, Nat.zero_le _, rfl, by simp⟩
  case round =>
    obtain ⟨k, hk, rfl, rfl⟩ := hrel
    by_cases hlt : k < n
    · obtain ⟨b, off, rfl, hb, hc⟩ := HX.out.at_ (by omega)
      have g0 : w.cell? ⟨b, off + k * 4, none⟩ = some (.int .i64 (k0 + (k : Int) * 4)) := by
        have h := hc (k * 4) (idx_lt hlt (show 0 < 4 by omega))
        rw [marks_at k0 (n * 4) (k * 4) (idx_lt hlt (show 0 < 4 by omega))] at h
        rw [show k0 + ((k * 4 : Nat) : Int) = k0 + (k : Int) * 4 by omega] at h
        exact h
      have g1 : w.cell? ⟨b, off + k * 4 + 1, none⟩ = some (.int .i64 (k0 + (k : Int) * 4 + 1)) := by
        have h := hc (k * 4 + 1) (idx_lt hlt (show 1 < 4 by omega))
        rw [marks_at k0 (n * 4) (k * 4 + 1) (idx_lt hlt (show 1 < 4 by omega))] at h
        rw [show k0 + ((k * 4 + 1 : Nat) : Int) = k0 + (k : Int) * 4 + 1 by omega] at h
        exact h
      have g2 : w.cell? ⟨b, off + k * 4 + 2, none⟩ = some (.int .i64 (k0 + (k : Int) * 4 + 1 + 1)) := by
        have h := hc (k * 4 + 2) (idx_lt hlt (show 2 < 4 by omega))
        rw [marks_at k0 (n * 4) (k * 4 + 2) (idx_lt hlt (show 2 < 4 by omega))] at h
        rw [show k0 + ((k * 4 + 2 : Nat) : Int) = k0 + (k : Int) * 4 + 1 + 1 by omega] at h
        exact h
      have g3 : w.cell? ⟨b, off + k * 4 + 3, none⟩ = some (.int .i64 (k0 + (k : Int) * 4 + 1 + 1 + 1)) := by
        have h := hc (k * 4 + 3) (idx_lt hlt (show 3 < 4 by omega))
        rw [marks_at k0 (n * 4) (k * 4 + 3) (idx_lt hlt (show 3 < 4 by omega))] at h
        rw [show k0 + ((k * 4 + 3 : Nat) : Int) = k0 + (k : Int) * 4 + 1 + 1 + 1 by omega] at h
        exact h
      clear hc
      have e0 : (k : Int) ≤ 1048576 := by omega
      have i0 : (0 : Int) ≤ (k : Int) := by omega
      have i1 : (k : Int) < (n : Int) := by omega
      go_wp2
      go_round
      case rel => exact ⟨k + 1, by omega, by go_num, by go_num⟩
      case measure => simp [intOf]; omega
    · have hk' : k = n := by omega
      subst hk'
      go_wp2
      go_ret
      exact ⟨ret_int (by omega), rfl⟩
theorem Row.allRect {w : World} {g : Nat} {y0 y1 y2 y3 : Int} (h : Row w g [y0, y1, y2, y3]) : w.cell? ⟨g, 0, none⟩ = some (.int .i64 y0) ∧ w.cell? ⟨g, 1, none⟩ = some (.int .i64 y1) ∧ w.cell? ⟨g, 2, none⟩ = some (.int .i64 y2) ∧ w.cell? ⟨g, 3, none⟩ = some (.int .i64 y3) :=
  ⟨h.c 0 (by simp), h.c 1 (by simp), h.c 2 (by simp), h.c 3 (by simp)⟩
theorem Row.oneRect1 (w : World) (y0 y1 y2 y3 : Int) (t : TypeId) : Row (w.alloc (.cells #[.int .i64 y0, .int .i64 y1, .int .i64 y2, .int .i64 y3] t)) w.heap.size [y0, y1, y2, y3] :=
  ⟨by simp, fun i hi => by
    match i, hi with
    | 0, _ => simp [go_sem]
    | 1, _ => simp [go_sem]
    | 2, _ => simp [go_sem]
    | 3, _ => simp [go_sem]
    | i + 4, hi => simp at hi; omega, fun i hi => by simp [go_sem]⟩
end Go.Proofs.Ytpkajdnndognnaa
