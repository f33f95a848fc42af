/- Comparing two trees that are the same, walked. Condition: both can be read. -/
import Derived.Test.YtobnjagmakhgpaaZX
import Derived.Deep.QuietTactic
namespace Go.Proofs.Ytobnjagmakhgpaa
open Go.RowKit

set_option maxRecDepth 100000 in
set_option maxHeartbeats 4000000 in
theorem equalBoxes_same (A B : Option Addr) (n c d : Nat) (xs : List Int) (hn : n ≤ 1048576) (w : World) (hx : Sts 9 w A n xs) (hy : Sts 9 w B n xs) :
    Calls Try.prog 20 #[.slice A n c, .slice B n d] w fun e w' => e = .returned (.bool true) ∧ New w w' := by
  have HX := Lib.hid hx; have HY := Lib.hid hy
  clear hx hy
  go_enter Try.func20, Try.ntmps20
  go_wp2
  go_loopw [5] (fun i wr => ∃ k : Nat, k ≤ n ∧ i = .int .i64 (k : Int) ∧ ∃ q, wr = w.drewN q) (fun i _ => n - (intOf i).toNat)
  case atStart => exact ⟨0, Nat.zero_le _, rfl, 0, rfl⟩
  case round =>
    obtain ⟨k, hk, rfl, q, rfl⟩ := hrel
    have k0 : (0 : Int) ≤ (k : Int) := by omega
    by_cases hlt : k < n
    · have k1 : (k : Int) < (n : Int) := by omega
      obtain ⟨b, off, rfl, hb, hc⟩ := HX.out.at_ (by omega)
      obtain ⟨b', off', rfl, hb', hc'⟩ := HY.out.at_ (by omega)
      have g0 : w.cell? ⟨b, off + k * 9, none⟩ = some (.int .i64 (xs.getD (k * 9) 0)) := hc (k * 9) (idx_lt hlt (show 0 < 9 by omega))
      have o0 : w.cell? ⟨b', off' + k * 9, none⟩ = some (.int .i64 (xs.getD (k * 9) 0)) := hc' (k * 9) (idx_lt hlt (show 0 < 9 by omega))
      have g1 : w.cell? ⟨b, off + k * 9 + 1, none⟩ = some (.int .i64 (xs.getD (k * 9 + 1) 0)) := hc (k * 9 + 1) (idx_lt hlt (show 1 < 9 by omega))
      have o1 : w.cell? ⟨b', off' + k * 9 + 1, none⟩ = some (.int .i64 (xs.getD (k * 9 + 1) 0)) := hc' (k * 9 + 1) (idx_lt hlt (show 1 < 9 by omega))
      have g2 : w.cell? ⟨b, off + k * 9 + 2, none⟩ = some (.int .i64 (xs.getD (k * 9 + 2) 0)) := hc (k * 9 + 2) (idx_lt hlt (show 2 < 9 by omega))
      have o2 : w.cell? ⟨b', off' + k * 9 + 2, none⟩ = some (.int .i64 (xs.getD (k * 9 + 2) 0)) := hc' (k * 9 + 2) (idx_lt hlt (show 2 < 9 by omega))
      have g3 : w.cell? ⟨b, off + k * 9 + 3, none⟩ = some (.int .i64 (xs.getD (k * 9 + 3) 0)) := hc (k * 9 + 3) (idx_lt hlt (show 3 < 9 by omega))
      have o3 : w.cell? ⟨b', off' + k * 9 + 3, none⟩ = some (.int .i64 (xs.getD (k * 9 + 3) 0)) := hc' (k * 9 + 3) (idx_lt hlt (show 3 < 9 by omega))
      have g4 : w.cell? ⟨b, off + k * 9 + 4, none⟩ = some (.int .i64 (xs.getD (k * 9 + 4) 0)) := hc (k * 9 + 4) (idx_lt hlt (show 4 < 9 by omega))
      have o4 : w.cell? ⟨b', off' + k * 9 + 4, none⟩ = some (.int .i64 (xs.getD (k * 9 + 4) 0)) := hc' (k * 9 + 4) (idx_lt hlt (show 4 < 9 by omega))
      have g5 : w.cell? ⟨b, off + k * 9 + 5, none⟩ = some (.int .i64 (xs.getD (k * 9 + 5) 0)) := hc (k * 9 + 5) (idx_lt hlt (show 5 < 9 by omega))
      have o5 : w.cell? ⟨b', off' + k * 9 + 5, none⟩ = some (.int .i64 (xs.getD (k * 9 + 5) 0)) := hc' (k * 9 + 5) (idx_lt hlt (show 5 < 9 by omega))
      have g6 : w.cell? ⟨b, off + k * 9 + 6, none⟩ = some (.int .i64 (xs.getD (k * 9 + 6) 0)) := hc (k * 9 + 6) (idx_lt hlt (show 6 < 9 by omega))
      have o6 : w.cell? ⟨b', off' + k * 9 + 6, none⟩ = some (.int .i64 (xs.getD (k * 9 + 6) 0)) := hc' (k * 9 + 6) (idx_lt hlt (show 6 < 9 by omega))
      have g7 : w.cell? ⟨b, off + k * 9 + 7, none⟩ = some (.int .i64 (xs.getD (k * 9 + 7) 0)) := hc (k * 9 + 7) (idx_lt hlt (show 7 < 9 by omega))
      have o7 : w.cell? ⟨b', off' + k * 9 + 7, none⟩ = some (.int .i64 (xs.getD (k * 9 + 7) 0)) := hc' (k * 9 + 7) (idx_lt hlt (show 7 < 9 by omega))
      have g8 : w.cell? ⟨b, off + k * 9 + 8, none⟩ = some (.int .i64 (xs.getD (k * 9 + 8) 0)) := hc (k * 9 + 8) (idx_lt hlt (show 8 < 9 by omega))
      have o8 : w.cell? ⟨b', off' + k * 9 + 8, none⟩ = some (.int .i64 (xs.getD (k * 9 + 8) 0)) := hc' (k * 9 + 8) (idx_lt hlt (show 8 < 9 by omega))
      generalize xs.getD (k * 9) 0 = y0 at g0 o0
      generalize xs.getD (k * 9 + 1) 0 = y1 at g1 o1
      generalize xs.getD (k * 9 + 2) 0 = y2 at g2 o2
      generalize xs.getD (k * 9 + 3) 0 = y3 at g3 o3
      generalize xs.getD (k * 9 + 4) 0 = y4 at g4 o4
      generalize xs.getD (k * 9 + 5) 0 = y5 at g5 o5
      generalize xs.getD (k * 9 + 6) 0 = y6 at g6 o6
      generalize xs.getD (k * 9 + 7) 0 = y7 at g7 o7
      generalize xs.getD (k * 9 + 8) 0 = y8 at g8 o8
      clear hc hc' hb hb'
      go_wp2
      go_quiet (fail)
      go_wp2
      go_roundw
      case rel => exact ⟨k + 1, by omega, by go_num, _, rfl⟩
      case measure => simp [intOf]; omega
    · obtain rfl : n = k := by omega
      go_wp2
      go_ret
      exact ⟨rfl, (New.refl w).drewN q⟩
end Go.Proofs.Ytobnjagmakhgpaa
