/- The program's check of a list of numbers, walked: not too many numbers, each from 0 to a greatest one. Condition: the list can be read. -/
import Derived.Test.YtnipnemhbelcaaaInts2
namespace Go.Proofs.Ytnipnemhbelcaaa
open Go.RowKit

/-- Not too many numbers, from 0 to a greatest one. -/
def listB (most hi : Int) (xs : List Int) : Bool := decide ((xs.length : Int) ≤ most) && allB 0 hi xs
set_option maxHeartbeats 1000000 in
theorem validList_any (A : Option Addr) (n c : Nat) (xs : List Int) (most hi : Int) (hn : n ≤ 1048576) (w : World) (hx : Ints w A n xs) :
    Calls Try.prog 65 #[.slice A n c, .int .i64 most, .int .i64 hi] w fun e w' => e = .returned (.bool (listB most hi xs)) ∧ w = w' := by
  have HX := Lib.hid hx
  have lx := hx.len
  have LX := Lib.hid lx
  clear hx
  by_cases hr : (n : Int) ≤ most
  · have E : Hid (listB most hi xs = allB 0 hi xs) := Lib.hid (by
      unfold listB
      rw [lx, decide_eq_true hr, Bool.true_and])
    clear lx
    go_enter Try.func65, Try.ntmps65
    go_wp2
    go_loop [15] (fun i => ∃ k : Nat, k ≤ n ∧ i = .int .i64 k ∧ Hid (∀ z ∈ xs.take k, 0 ≤ z ∧ z ≤ hi)) (fun i => n - (intOf i).toNat)
    case atStart => exact ⟨0, Nat.zero_le _, rfl, Lib.hid (by simp)⟩
    case round =>
      obtain ⟨k, hk, rfl, HA⟩ := hrel
      by_cases hlt : k < n
      · obtain ⟨b, off, rfl, hb, hc⟩ := HX.out.at_ (by omega)
        have g := hc k hlt
        clear hc
        have k0 : (0 : Int) ≤ (k : Int) := by omega
        have k1 : (k : Int) < (n : Int) := by omega
        by_cases hz : 0 ≤ xs.getD k 0 ∧ xs.getD k 0 ≤ hi
        · have HS := Lib.hid (allB_step (by rw [LX.out]; exact hlt) HA.out hz)
          generalize xs.getD k 0 = z at g hz
          have hzb : decide (0 ≤ z ∧ z ≤ hi) = true := decide_eq_true hz
          clear hz
          go_wp2_with (go_at_call 38; refine (within_any _ _ _ _).mono ?_; rw [hzb]; rintro e w' ⟨rfl, rfl⟩)
          go_round
          case rel => exact ⟨k + 1, by omega, by go_num, HS⟩
          case measure => simp [intOf]; omega
        · have HF := Lib.hid (allB_no (by rw [LX.out]; exact hlt) hz)
          generalize xs.getD k 0 = z at g hz
          have hzb : decide (0 ≤ z ∧ z ≤ hi) = false := by rw [decide_eq_false_iff_not]; exact hz
          clear hz
          go_wp2_with (go_at_call 38; refine (within_any _ _ _ _).mono ?_; rw [hzb]; rintro e w' ⟨rfl, rfl⟩)
          go_ret
          exact ⟨ret_bool (E.out.trans HF.out).symm, rfl⟩
      · have hk' : k = n := by omega
        subst hk'
        go_wp2
        go_ret
        exact ⟨ret_bool (by
          have h := HA.out
          rw [List.take_of_length_le (by rw [LX.out]; omega)] at h
          exact (E.out.trans (allB_iff.2 h)).symm), rfl⟩
  · have E : listB most hi xs = false := by
      unfold listB
      rw [lx, decide_eq_false hr, Bool.false_and]
    rw [E]
    have hr' : most < (n : Int) := by omega
    clear lx E hr
    go_enter Try.func65, Try.ntmps65
    go_wp2
    go_ret
    exact ⟨rfl, rfl⟩
end Go.Proofs.Ytnipnemhbelcaaa
