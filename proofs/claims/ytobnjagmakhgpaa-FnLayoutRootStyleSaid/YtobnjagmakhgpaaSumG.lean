/- Sizes with a gap between two of them, added up by the program. Condition: the sizes can be read, are few and small. -/
import Derived.Test.YtobnjagmakhgpaaZA
namespace Go.Proofs.Ytobnjagmakhgpaa
open Go.RowKit

/-- The sizes and a gap between two of them. -/
def gapSum (xs : List Int) (gap : Int) : Int := xs.sum + gap * mx 0 ((xs.length : Int) - 1)
theorem gapSum_pos {xs : List Int} {n : Nat} (h : xs.length = n) (hn : 1 ≤ n) (gap : Int) : gapSum xs gap = xs.sum + gap * ((n : Int) - 1) := by
  unfold gapSum mx
  rw [h, show max 0 ((n : Int) - 1) = (n : Int) - 1 by omega]
theorem gapSum_nil (gap : Int) : gapSum [] gap = 0 := by
  unfold gapSum mx
  rw [show max (0 : Int) (((([] : List Int).length : Nat) : Int) - 1) = 0 by simp; omega, Int.mul_zero]
  rfl
theorem gapp_bd {g n : Int} (hg : 0 ≤ g ∧ g ≤ 50) (hn : 0 ≤ n ∧ n ≤ 100) : 0 ≤ g * n ∧ g * n ≤ 5000 := by
  refine ⟨Int.mul_nonneg hg.1 hn.1, ?_⟩
  have h1 : g * n ≤ 50 * n := Int.mul_le_mul_of_nonneg_right hg.2 hn.1
  omega
set_option maxHeartbeats 1000000 in
theorem sumWithGaps_any (A : Option Addr) (n c : Nat) (xs : List Int) (gap : Int) (hn : n ≤ 100) (hg : 0 ≤ gap ∧ gap ≤ 50) (w : World) (hx : Ints w A n xs) (hz : Sml xs) :
    Calls Try.prog 147 #[.slice A n c, .int .i64 gap] w fun e w' => e = .returned (.int .i64 (gapSum xs gap)) ∧ w = w' := by
  have lx := hx.len
  have sb := sum_bd hz n
  rw [List.take_of_length_le (by omega)] at sb
  have E : Hid (gapSum xs gap = xs.sum + gap * mx 0 ((n : Int) - 1)) := Lib.hid (by unfold gapSum; rw [lx])
  have mb : 0 ≤ mx 0 ((n : Int) - 1) ∧ mx 0 ((n : Int) - 1) ≤ 100 := by unfold mx; omega
  have gb := gapp_bd hg mb
  have HX := Lib.hid hx; have HZ := Lib.hid hz
  have hmx := run_mx Try.prog
  obtain ⟨sb0, sb1⟩ := sb
  obtain ⟨gb0, gb1⟩ := gb
  obtain ⟨mb0, mb1⟩ := mb
  have n0 : (0 : Int) ≤ (n : Int) := by omega
  have n1 : (n : Int) ≤ 100 := by omega
  have s1 : IntKind.i64.wrap ((n : Int) - 1) = (n : Int) - 1 := IntWalk.i64_in _ (by omega)
  rw [E.out]
  clear hx hz lx
  go_enter Try.func147, Try.ntmps147
  go_wp2_with (go_at_call 101; refine (sumOf_any A n c xs hn _ (HX.out.new (by (repeat (first | exact New.refl _ | assumption | refine New.alloc ?_ _ | refine New.drew ?_ | refine New.drewN ?_ _ | refine New.setCell ?_ (by first | omega | (simp; omega) | (simp; done)) _ | refine New.trans ?_ (by assumption))))) HZ.out).mono ?_; rintro e w' ⟨rfl, rfl⟩)
  go_ret
  exact ⟨rfl, rfl⟩
end Go.Proofs.Ytobnjagmakhgpaa
