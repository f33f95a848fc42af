/- slices.SortFunc over byId on a queue of the call's own, walked: the sort for short lists is the insertion sort. Conditions: at most 10 tasks; their numbers differ. -/
import Derived.Test.YtpkombjmbpgdnaaHeapK
namespace Go.Proofs.Ytpkombjmbpgdnaa
open Go.RowKit

set_option maxRecDepth 100000 in
set_option maxHeartbeats 1000000 in
theorem len64_any (n : Nat) (hn : n ≤ 10) (w : World) : Calls Try.prog 48 #[.int .u64 n] w fun e w' => (∃ z, e = .returned (.int .i64 z)) ∧ w = w' := by
  rcases (show n = 0 ∨ n = 1 ∨ n = 2 ∨ n = 3 ∨ n = 4 ∨ n = 5 ∨ n = 6 ∨ n = 7 ∨ n = 8 ∨ n = 9 ∨ n = 10 by omega) with rfl | rfl | rfl | rfl | rfl | rfl | rfl | rfl | rfl | rfl | rfl
  all_goals
    clear hn
    go_enter Try.func48, Try.ntmps48
    go_wp2
    go_ret
    exact ⟨⟨_, rfl⟩, rfl⟩
set_option maxHeartbeats 1000000 in
theorem len_any (n : Nat) (hn : n ≤ 10) (w : World) : Calls Try.prog 33 #[.int .u64 n] w fun e w' => (∃ z, e = .returned (.int .i64 z)) ∧ w = w' := by
  have C := Lib.hid (len64_any n hn w)
  clear hn
  go_enter Try.func33, Try.ntmps33
  go_wp2_with fail
  refine C.out.mono ?_
  rintro e w' ⟨⟨z, rfl⟩, rfl⟩
  go_wp2
  go_ret
  exact ⟨⟨z, rfl⟩, rfl⟩
set_option maxRecDepth 100000 in
set_option maxHeartbeats 1000000 in
theorem pdq_any (lo P g c n : Nat) (f : Nat → Tk) (z : Int) (hn : n ≤ 10) (w : World) (h : Qu lo w P g c n f) (hi : Inj f n) :
    Calls Try.prog 32 #[.slice (some ⟨g, 0, none⟩) n c, .int .i64 0, .int .i64 n, .int .i64 z, .func (.func 22) #[] #[]] w fun e w' => e = .returned (.tuple #[]) ∧ Sorted lo P g c n n f w w' := by
  have C := Lib.hid (insSort_any lo P g c n f hn w h hi)
  have ni : (n : Int) ≤ 12 := by omega
  have n0 : (0 : Int) ≤ (n : Int) := by omega
  clear h hi
  go_enter Try.func32, Try.ntmps32
  go_wp2
  go_loopw [1, 2] (fun a b wr => a = .int .i64 0 ∧ b = .int .i64 n ∧ wr = w) (fun _ _ _ => 0)
  case atStart => exact ⟨rfl, rfl, rfl⟩
  case round =>
    obtain ⟨rfl, rfl, rfl⟩ := hrel
    go_wp2_with fail
    refine C.out.mono ?_
    rintro e w' ⟨rfl, h⟩
    have H := Lib.hid h
    clear h
    go_wp2
    refine bodyPost_ret (v := .tuple #[]) (by first | rfl | simp [results, go_sem]) rfl ⟨rfl, H.out⟩
set_option maxHeartbeats 1000000 in
theorem SortFunc_any (lo P g c n : Nat) (f : Nat → Tk) (hn : n ≤ 10) (w : World) (h : Qu lo w P g c n f) (hi : Inj f n) :
    Calls Try.prog 21 #[.slice (some ⟨g, 0, none⟩) n c, .func (.func 22) #[] #[]] w fun e w' => e = .returned (.tuple #[]) ∧ Sorted lo P g c n n f w w' := by
  have C := Lib.hid (fun z => pdq_any lo P g c n f z hn w h hi)
  have L := Lib.hid (len_any n hn w)
  have ni : (n : Int) ≤ 12 := by omega
  have n0 : (0 : Int) ≤ (n : Int) := by omega
  clear h hi
  go_enter Try.func21, Try.ntmps21
  go_wp2_with fail
  refine L.out.mono ?_
  rintro e w' ⟨⟨z, rfl⟩, rfl⟩
  go_wp2_with fail
  refine (C.out z).mono ?_
  rintro e w' ⟨rfl, h⟩
  have H := Lib.hid h
  clear h
  go_wp2
  go_end0
  exact ⟨rfl, H.out⟩
end Go.Proofs.Ytpkombjmbpgdnaa
