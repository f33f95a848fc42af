/- ShareSpace of the program and of the reference, whatever the arguments: both split alike, or both return nothing. Condition: the weights can be read. -/
import Derived.Test.YtnipnemhbelcaaaShareW
namespace Go.Proofs.Ytnipnemhbelcaaa
open Go.RowKit

/-- The arguments are valid. -/
def shOk (a : Int) (ws : List Int) : Bool := decide (0 ≤ a ∧ a ≤ 200000) && rowB 200000 ws
/-- What a split leaves: a row of its own with the shares, or nothing. -/
def Split (w : World) (n : Nat) (a : Int) (ws : List Int) (e : Ending) (w' : World) : Prop :=
  if shOk a ws = true then ∃ g, e = .returned (.slice (some ⟨g, 0, none⟩) n n) ∧ w.heap.size ≤ g ∧ Row w' g (shareL a ws) ∧ New w w' else e = .returned (.slice none 0 0) ∧ New w w'
set_option maxHeartbeats 1000000 in
theorem ShareSpace_any (A : Option Addr) (n c : Nat) (a : Int) (ws : List Int) (hn : n ≤ 1048576) (w : World) (hx : Ints w A n ws) :
    Calls Try.prog 57 #[.int .i64 a, .slice A n c] w (Split w n a ws) := by
  unfold Split
  by_cases ha : 0 ≤ a ∧ a ≤ 200000
  · cases hr : rowB 200000 ws
    · have e : ¬ shOk a ws = true := by unfold shOk; rw [hr, Bool.and_false]; decide
      simp only [if_neg e]
      have hd : decide (0 ≤ a ∧ a ≤ 200000) = true := decide_eq_true ha
      have HX := Lib.hid hx
      have HR := Lib.hid hr
      clear hx ha hr e
      go_enter Try.func57, Try.ntmps57
      go_wp2_with (first
        | (go_at_call 38; refine (within_any _ _ _ _).mono ?_; rw [hd]; rintro e w' ⟨rfl, rfl⟩)
        | (go_at_call 67; refine (validRow_any A n c ws _ (by omega) _ (HX.out.new (by (repeat (first | exact New.refl _ | assumption | refine New.alloc ?_ _ | refine New.drew ?_ | refine New.drewN ?_ _ | refine New.setCell ?_ (by first | omega | (simp; omega) | (simp; done)) _ | refine New.trans ?_ (by assumption)))))).mono ?_; rw [HR.out]; rintro e w' ⟨rfl, rfl⟩))
      go_ret
      exact ⟨rfl, by (repeat (first | exact New.refl _ | assumption | refine New.alloc ?_ _ | refine New.drew ?_ | refine New.drewN ?_ _ | refine New.setCell ?_ (by first | omega | (simp; omega) | (simp; done)) _ | refine New.trans ?_ (by assumption)))⟩
    · have e : shOk a ws = true := by unfold shOk; rw [hr, decide_eq_true ha]; rfl
      simp only [if_pos e]
      exact ShareSpace_yes A n c a ws ha hr w hx
  · have hd : decide (0 ≤ a ∧ a ≤ 200000) = false := decide_eq_false ha
    have e : ¬ shOk a ws = true := by unfold shOk; rw [hd, Bool.false_and]; decide
    simp only [if_neg e]
    clear hx ha e
    go_enter Try.func57, Try.ntmps57
    go_wp2_with (go_at_call 38; refine (within_any _ _ _ _).mono ?_; rw [hd]; rintro e w' ⟨rfl, rfl⟩)
    go_ret
    exact ⟨rfl, by (repeat (first | exact New.refl _ | assumption | refine New.alloc ?_ _ | refine New.drew ?_ | refine New.drewN ?_ _ | refine New.setCell ?_ (by first | omega | (simp; omega) | (simp; done)) _ | refine New.trans ?_ (by assumption)))⟩
end Go.Proofs.Ytnipnemhbelcaaa
