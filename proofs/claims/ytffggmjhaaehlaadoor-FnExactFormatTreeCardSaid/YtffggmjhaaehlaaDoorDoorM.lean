/- What the rows that list package-level variables have in common: the program's own start meets the condition; the listed variable of the program's own reads on as it did. No condition. -/
import Derived.Test.YtffggmjhaaehlaaDoorTxtW
namespace Go.Proofs.YtffggmjhaaehlaaDoor
open Go.ChangeShapes Go.WideShapes Go.ChangeAt Go.WideMaps Go.WideElems Go.RowKit

theorem ownD : ownKnob Tryd.prog.godebug = none := by kernel_rfl
theorem laidD : laidOutB Tryd.prog = true := by kernel_rfl
/-- The door's own heap meets the condition. -/
theorem door_met (os : Os) (args : Array Value) : laidMetH Tryd.prog laids ((World.doorLaid Tryd.prog 40 os).forCall (fun _ _ => 0) ⟨#[], args, []⟩).memory :=
  laidMetH_of_parts3 (fuel := 8) (laidMet_of_run' 8 (by kernel_rfl) (by kernel_rfl)) (by kernel_rfl) (by kernel_rfl)
theorem vars_stay {H : Type} {enc : TypeId × Value → H} {W W' : World} {gs : List (DataW H)} {q : List MemPlace} (hN : New W W') (hV : DataW.TrodVars enc Tryd.prog W (fun _ => true) [knName] gs q) :
    ∃ d, gs = [d] ∧ DataW.TrodVars enc Tryd.prog W' (fun b => decide (b < W.heap.size)) [knName] [d] q := by
  obtain ⟨g, t, cs, fuel, d, p, rfl, hg, ht, hv, hd, rfl⟩ := trodVars_one hV
  obtain rfl := Option.some.inj (gKn.symm.trans hg)
  obtain rfl := Option.some.inj (tKn.symm.trans ht)
  have hlt : 0 < W.heap.size := by
    rcases Nat.lt_or_ge 0 W.heap.size with h' | h'
    · exact h'
    · unfold World.var? at hv
      rw [hg] at hv
      simp only [Option.bind_some] at hv
      rw [Array.getElem?_eq_none h'] at hv
      cases hv
  have lt : ∀ x ∈ p, x.block < W.heap.size := DataW.trod_lt fuel _ _ _ hd
  exact ⟨d, rfl, trodVars_mk1 hg ht (var?_below hN hg hlt hv)
    (DataW.trod_stays (kids_book laidD (show Tryd.prog.readableRec 73 = true by kernel_rfl)) (book_sized (show Tryd.prog.readableRec 73 = true by kernel_rfl)) (fun h => by cases h) ⟨of_decide_eq_true (by kernel_rfl), book_self _⟩ hd (fun x hx => hN.same (lt x hx)) (fun x hx => by simpa using lt x hx))⟩
end Go.Proofs.YtffggmjhaaehlaaDoor
