/- What every row of this seat asks of the whole program: the head of its text says 'cut', nothing is laid later, no door is passed. No condition. -/
import Derived.Test.YtobnjagmakhgpaaRows
import Derived.ProofKit
namespace Go.Proofs.Ytobnjagmakhgpaa
open Go

theorem head_cut : ∃ r, behindMainWord (wordsSigns Try.prog.initOrder.toList) = "cut".toList :: r := by
  have h : (match behindMainWord (wordsSigns Try.prog.initOrder.toList) with | c :: _ => c == "cut".toList | [] => false) = true := by kernel_rfl
  generalize behindMainWord (wordsSigns Try.prog.initOrder.toList) = l at h ⊢
  match l, h with
  | c :: r, h => exact ⟨r, by rw [eq_of_beq h]⟩
theorem lifts_cut (r : List (List Char)) : stripLifts liftWords ("cut".toList :: r) = ([], "cut".toList :: r) := by
  simp only [liftWords, stripLifts]
  simp
theorem later_no : Try.prog.laysLater = false := by kernel_rfl
theorem reflect_no : Try.prog.bearsReflect = false := by kernel_rfl
theorem door_ok : Try.prog.doorFits [] = true := by kernel_rfl
section
variable {P : Program} {r : List (List Char)}
theorem enter_of (h : behindMainWord (wordsSigns P.initOrder.toList) = "cut".toList :: r) (h1 : P.laysLater = false) (h2 : P.bearsReflect = false) (h3 : P.doorFits [] = true) : P.mayEnter = true := by
  unfold Program.mayEnter
  rw [h]
  simp only [lifts_cut, h1, h2, h3]
  simp
theorem make_of (h : behindMainWord (wordsSigns P.initOrder.toList) = "cut".toList :: r) : P.make = some .cut := by
  unfold Program.make
  rw [h]
  simp
theorem final_of (h : behindMainWord (wordsSigns P.initOrder.toList) = "cut".toList :: r) : P.liftsFinal = false := by
  unfold Program.liftsFinal Program.headLifts
  rw [h]
  simp only [lifts_cut]
  simp
end
theorem fact_enter : Try.prog.mayEnter = true := by
  obtain ⟨r, h⟩ := head_cut
  exact enter_of h later_no reflect_no door_ok
theorem fact_make : Try.prog.make = some .cut := by
  obtain ⟨r, h⟩ := head_cut
  exact make_of h
theorem fact_final : Try.prog.liftsFinal = false := by
  obtain ⟨r, h⟩ := head_cut
  exact final_of h
theorem fact_laid : laidOutB Try.prog = true := by kernel_rfl
theorem fact_maps : mapsRowed Try.prog = true := by kernel_rfl
theorem fact_heard : Try.prog.stopsHeard = true := by kernel_rfl
end Go.Proofs.Ytobnjagmakhgpaa
