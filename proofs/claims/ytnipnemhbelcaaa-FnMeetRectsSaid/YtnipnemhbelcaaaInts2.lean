/- Lists of whole numbers in a range: the range tests of the program and of the reference. Conditions: the slice can be read. -/
import Derived.Test.YtnipnemhbelcaaaInts
namespace Go.Proofs.Ytnipnemhbelcaaa
open Go.RowKit

/-- All numbers of a list are in a range. -/
def allB (lo hi : Int) (xs : List Int) : Bool := decide (∀ z ∈ xs, lo ≤ z ∧ z ≤ hi)
theorem allB_iff {lo hi : Int} {xs : List Int} : allB lo hi xs = true ↔ ∀ z ∈ xs, lo ≤ z ∧ z ≤ hi := by unfold allB; simp
theorem allB_no {lo hi : Int} {xs : List Int} {k : Nat} (hk : k < xs.length) (h : ¬ (lo ≤ xs.getD k 0 ∧ xs.getD k 0 ≤ hi)) : allB lo hi xs = false := by
  rw [Bool.eq_false_iff]; intro h'
  have e : xs.getD k 0 = xs[k] := by simp [hk]
  exact h (e ▸ allB_iff.1 h' _ (List.getElem_mem hk))
theorem allB_step {lo hi : Int} {xs : List Int} {k : Nat} (hk : k < xs.length) (h : ∀ z ∈ xs.take k, lo ≤ z ∧ z ≤ hi) (hz : lo ≤ xs.getD k 0 ∧ xs.getD k 0 ≤ hi) : ∀ z ∈ xs.take (k + 1), lo ≤ z ∧ z ≤ hi := by
  rw [take_snoc_i hk]; intro z hz'
  rcases List.mem_append.1 hz' with h1 | h1
  · exact h z h1
  · rw [List.mem_singleton.1 h1]; exact hz

set_option maxHeartbeats 400000 in
theorem within_any (n lo hi : Int) (w : World) :
    Calls Try.prog 38 #[.int .i64 n, .int .i64 lo, .int .i64 hi] w fun e w' => e = .returned (.bool (decide (lo ≤ n ∧ n ≤ hi))) ∧ w = w' := by
  go_enter Try.func38, Try.ntmps38
  go_wp2
  all_goals (go_ret; exact ⟨ret_bool (by rw [Bool.eq_iff_iff]; simp; omega), rfl⟩)

set_option maxHeartbeats 400000 in
theorem inRange_any (n lo hi : Int) (w : World) :
    Calls Try.prog 43 #[.int .i64 n, .int .i64 lo, .int .i64 hi] w fun e w' => e = .returned (.bool (decide (lo ≤ n ∧ n ≤ hi))) ∧ w = w' := by
  go_enter Try.func43, Try.ntmps43
  go_wp2
  all_goals (go_ret; exact ⟨ret_bool (by rw [Bool.eq_iff_iff]; simp; omega), rfl⟩)

set_option maxHeartbeats 1000000 in
theorem allIn_any (A : Option Addr) (n c : Nat) (xs : List Int) (lo hi : Int) (hn : n ≤ 1048576) (w : World) (hx : Ints w A n xs) :
    Calls Try.prog 49 #[.slice A n c, .int .i64 lo, .int .i64 hi] w fun e w' => e = .returned (.bool (allB lo hi xs)) ∧ w = w' := by
  have HX := Lib.hid hx
  have lx := hx.len
  have LX := Lib.hid lx
  clear hx lx
  go_enter Try.func49, Try.ntmps49
  go_wp2
  go_loop [7] (fun i => ∃ k : Nat, k ≤ n ∧ i = .int .i64 k ∧ Hid (∀ z ∈ xs.take k, lo ≤ z ∧ z ≤ hi)) (fun i => n - (intOf i).toNat)
  case atStart => exact ⟨0, Nat.zero_le _, rfl, Lib.hid (by simp)⟩
  case round =>
    obtain ⟨k, hk, rfl, HA⟩ := hrel
    by_cases hlt : k < n
    · obtain ⟨b, off, rfl, hb, hc⟩ := HX.out.at_ (by omega)
      have g := hc k hlt
      clear hc
      have k0 : (0 : Int) ≤ (k : Int) := by omega
      have k1 : (k : Int) < (n : Int) := by omega
      by_cases hz : lo ≤ xs.getD k 0 ∧ xs.getD k 0 ≤ hi
      · have HS := Lib.hid (allB_step (by rw [LX.out]; exact hlt) HA.out hz)
        generalize xs.getD k 0 = z at g hz
        obtain ⟨hz1, hz2⟩ := hz
        go_wp2_with (go_at_call 43; refine (inRange_any _ _ _ _).mono ?_; rintro e w' ⟨rfl, rfl⟩)
        go_round
        case rel => exact ⟨k + 1, by omega, by go_num, HS⟩
        case measure => simp [intOf]; omega
      · have HF := Lib.hid (allB_no (by rw [LX.out]; exact hlt) hz)
        generalize xs.getD k 0 = z at g hz
        have hzb : decide (lo ≤ z ∧ z ≤ hi) = false := by rw [decide_eq_false_iff_not]; exact hz
        have hzc : lo ≤ z → hi < z := fun h => by omega
        clear hz
        go_wp2_with (go_at_call 43; refine (inRange_any _ _ _ _).mono ?_; rw [hzb]; rintro e w' ⟨rfl, rfl⟩)
        go_ret
        exact ⟨ret_bool HF.out.symm, rfl⟩
    · have hk' : k = n := by omega
      subst hk'
      go_wp2
      go_ret
      exact ⟨ret_bool (by
        have h := HA.out
        rw [List.take_of_length_le (by rw [LX.out]; omega)] at h
        exact (allB_iff.2 h).symm), rfl⟩

end Go.Proofs.Ytnipnemhbelcaaa
