/- Asking whether a number is in a list (isIn of the laws), walked. Condition: the list can be read. -/
import Derived.Test.YtpkombjmbpgdnaaOwn2
namespace Go.Proofs.Ytpkombjmbpgdnaa
open Go.RowKit

def inL (xs : List Int) (i : Nat) : Bool := decide ((i : Int) ∈ xs)
theorem inL_yes {xs : List Int} {k i : Nat} (hk : k < xs.length) (h : xs.getD k 0 = (i : Int)) : inL xs i = true := by
  unfold inL
  rw [decide_eq_true_eq, ← h]
  have e : xs.getD k 0 = xs[k] := by simp [hk]
  rw [e]; exact List.getElem_mem hk
theorem inL_step {xs : List Int} {k i : Nat} (hk : k < xs.length) (h : xs.getD k 0 ≠ (i : Int)) (ha : inL (xs.take k) i = false) : inL (xs.take (k + 1)) i = false := by
  unfold inL at *
  rw [decide_eq_false_iff_not] at *
  rw [take_snoc_i hk]
  intro hm
  rcases List.mem_append.1 hm with h1 | h1
  · exact ha h1
  · exact h (List.mem_singleton.1 h1).symm
set_option maxHeartbeats 400000 in
theorem isInL_any (A : Option Addr) (n c i : Nat) (xs : List Int) (hn : n ≤ 1048576) (w : World) (hx : Ints w A n xs) :
    Calls Try.prog 10 #[.slice A n c, .int .i64 (i : Int)] w fun e w' => e = .returned (.bool (inL xs i)) ∧ w = w' := by
  have HX := Lib.hid hx; have LX := Lib.hid hx.len
  have n1 : (n : Int) ≤ 1048576 := by omega
  clear hx
  go_enter Try.func10, Try.ntmps10
  go_wp2
  go_loop [5] (fun x => ∃ k : Nat, k ≤ n ∧ x = .int .i64 (k : Int) ∧ Hid (inL (xs.take k) i = false)) (fun x => n - (intOf x).toNat)
  case atStart => exact ⟨0, Nat.zero_le _, rfl, Lib.hid (by unfold inL; simp)⟩
  case round =>
    obtain ⟨k, hk, rfl, HA⟩ := hrel
    have k0 : (0 : Int) ≤ (k : Int) := by omega
    by_cases hlt : k < n
    · obtain ⟨b, off, rfl, hb, hc⟩ := HX.out.at_ (by omega)
      have g := hc k hlt
      have k1 : (k : Int) < (n : Int) := by omega
      have KL : Hid (k < xs.length) := Lib.hid (by rw [LX.out]; exact hlt)
      clear hc hb
      by_cases e : xs.getD k 0 = (i : Int)
      · have M1 : Hid (inL xs i = true) := Lib.hid (inL_yes KL.out e)
        rw [e] at g
        clear e
        go_wp2
        go_ret
        exact ⟨by rw [M1.out]; rfl, rfl⟩
      · have M1 : Hid (inL (xs.take (k + 1)) i = false) := Lib.hid (inL_step KL.out e HA.out)
        have eb : (xs.getD k 0 == (i : Int)) = false := by simpa using e
        generalize xs.getD k 0 = z at g eb
        clear e
        go_wp2
        go_round
        case rel => exact ⟨k + 1, by omega, by go_num, M1⟩
        case measure => simp [intOf]; omega
    · obtain rfl : n = k := by omega
      have M1 : Hid (inL xs i = false) := Lib.hid (by have := HA.out; rw [List.take_of_length_le (by rw [LX.out]; exact Nat.le_refl _)] at this; exact this)
      go_wp2
      go_ret
      exact ⟨by rw [M1.out]; rfl, rfl⟩
end Go.Proofs.Ytpkombjmbpgdnaa
