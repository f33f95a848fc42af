/- Comparing two queues that are the same, walked. Condition: both can be read. -/
import Derived.Test.YtecnhjofgkhlnaaTaskS
import Derived.Deep.QuietTactic
namespace Go.Proofs.Ytecnhjofgkhlnaa
open Go.RowKit

set_option maxRecDepth 100000 in
set_option maxHeartbeats 4000000 in
theorem equalTasks_same (A B : Option Addr) (n c d : Nat) (xs : List Int) (hn : n ≤ 1048576) (w : World) (hx : Sts 3 w A n xs) (hy : Sts 3 w B n xs) :
    Calls Try.prog 36 #[.slice A n c, .slice B n d] w fun e w' => e = .returned (.bool true) ∧ New w w' := by
  have HX := Lib.hid hx; have HY := Lib.hid hy
  clear hx hy
  go_enter Try.func36, Try.ntmps36
  go_wp2
  go_loopw [5] (fun i wr => ∃ k : Nat, k ≤ n ∧ i = .int .i64 (k : Int) ∧ ∃ q, wr = w.drewN q) (fun i _ => n - (intOf i).toNat)
  case atStart => exact ⟨0, Nat.zero_le _, rfl, 0, rfl⟩
  case round =>
    obtain ⟨k, hk, rfl, q, rfl⟩ := hrel
    have k0 : (0 : Int) ≤ (k : Int) := by omega
    by_cases hlt : k < n
    · have k1 : (k : Int) < (n : Int) := by omega
      obtain ⟨b, off, rfl, hb, hc⟩ := HX.out.at_ (by omega)
      obtain ⟨b', off', rfl, hb', hc'⟩ := HY.out.at_ (by omega)
      have g0 : w.cell? ⟨b, off + k * 3, none⟩ = some (.int .i64 (xs.getD (k * 3) 0)) := hc (k * 3) (idx_lt hlt (show 0 < 3 by omega))
      have o0 : w.cell? ⟨b', off' + k * 3, none⟩ = some (.int .i64 (xs.getD (k * 3) 0)) := hc' (k * 3) (idx_lt hlt (show 0 < 3 by omega))
      have g1 : w.cell? ⟨b, off + k * 3 + 1, none⟩ = some (.int .i64 (xs.getD (k * 3 + 1) 0)) := hc (k * 3 + 1) (idx_lt hlt (show 1 < 3 by omega))
      have o1 : w.cell? ⟨b', off' + k * 3 + 1, none⟩ = some (.int .i64 (xs.getD (k * 3 + 1) 0)) := hc' (k * 3 + 1) (idx_lt hlt (show 1 < 3 by omega))
      have g2 : w.cell? ⟨b, off + k * 3 + 2, none⟩ = some (.int .i64 (xs.getD (k * 3 + 2) 0)) := hc (k * 3 + 2) (idx_lt hlt (show 2 < 3 by omega))
      have o2 : w.cell? ⟨b', off' + k * 3 + 2, none⟩ = some (.int .i64 (xs.getD (k * 3 + 2) 0)) := hc' (k * 3 + 2) (idx_lt hlt (show 2 < 3 by omega))
      generalize xs.getD (k * 3) 0 = y0 at g0 o0
      generalize xs.getD (k * 3 + 1) 0 = y1 at g1 o1
      generalize xs.getD (k * 3 + 2) 0 = y2 at g2 o2
      clear hc hc' hb hb'
      go_wp2
      go_quiet (fail)
      go_wp2
      go_roundw
      case rel => exact ⟨k + 1, by omega, by go_num, _, rfl⟩
      case measure => simp [intOf]; omega
    · obtain rfl : n = k := by omega
      go_wp2
      go_ret
      exact ⟨rfl, (New.refl w).drewN q⟩
end Go.Proofs.Ytecnhjofgkhlnaa
