/- What the listed package-level variables give a walk: the words for the kinds, and the table of the powers of ten. Condition: they read as the program's own text lays them. -/
import Derived.Test.YtffggmjhaaehlaaDoorTxtX
import Derived.Test.YtffggmjhaaehlaaDoorShf
import Derived.Test.YtffggmjhaaehlaaDoorRows
import Derived.ProofKit
import Derived.LaidMore
import Derived.OpenShut
import Derived.ChangeVars
import Derived.WalkSmall
import Derived.Lib.LaidTab
import Derived.Stop.LaidErr
import Derived.Lib.SmallJoins
import Derived.Sort.Grow
namespace Go.Proofs.YtffggmjhaaehlaaDoor
open Go.ChangeShapes Go.WideShapes Go.ChangeAt Go.RowKit

theorem gKn : Tryd.prog.globalNamed knName = some 0 := by kernel_rfl
theorem tKn : (Tryd.prog.globals[0]?).map (·.type) = some 73 := by kernel_rfl
theorem gP10 : Tryd.prog.globalNamed p10Name = some 2 := by kernel_rfl
theorem tP10 : (Tryd.prog.globals[2]?).map (·.type) = some 107 := by kernel_rfl
theorem str_of {s : ByteArray} {l : List UInt8} (h : s.data.toList = l) : Value.string s = str l := by
  subst h
  cases s
  simp [str]
theorem knC_of {W : World} (h : laidMet Tryd.prog [(knName, Rows.laid_loop_example_flexlayout_impl_kindNames)] W) : KnC W := by
  obtain ⟨ps, ⟨g0, t0, cs0, f0, p0, q0, hg0, ht0, hv0, hd0, _, _⟩, _, _⟩ := h
  obtain rfl := Option.some.inj (gKn.symm.trans hg0)
  obtain rfl := Option.some.inj (tKn.symm.trans ht0)
  have c1 : Tryd.prog.cellsOf 9 = 1 := by kernel_rfl
  have hcell := fun j => World.var?_cell hg0 hv0 j
  obtain ⟨xs, m1, rfl, hx1, hlen, hn3, hel⟩ := DataW.trod_array Tryd.underlying73 hd0
  rw [c1] at hel
  have hx2 : [DataW.lit (.string (kn 0)), .lit (.string (kn 1)), .lit (.string (kn 2)), .lit (.string (kn 3))] = xs.map (·.1) := by
    have := congrArg Prod.fst hx1
    exact DataW.agg.inj this
  have at_ : ∀ j, j < 4 → cs0[j]? = some (str (kn j)) := by
    intro j hj
    have h1 := hel j hj
    have hxj : j < xs.length := by omega
    rw [List.getElem?_eq_getElem hxj] at h1
    obtain ⟨s, e, z, _⟩ := DataW.trod_string Tryd.underlying9 h1
    have h2 : (xs.map (·.1))[j]? = some (DataW.lit (.string s.data.toList)) := by
      rw [List.getElem?_map, List.getElem?_eq_getElem hxj, z]; rfl
    rw [← hx2] at h2
    have h3 : s.data.toList = kn j := by
      rcases (show j = 0 ∨ j = 1 ∨ j = 2 ∨ j = 3 by omega) with rfl | rfl | rfl | rfl <;>
        simp only [List.getElem?_cons_zero, List.getElem?_cons_succ, Option.some.injEq, DataW.lit.injEq, Lit.string.injEq] at h2 <;> exact h2.symm
    have h4 := congrArg (·[0]?) e
    simp only [List.getElem?_take, List.getElem?_drop] at h4
    have h5 : cs0.toList[j]? = some (.string s) := by simpa using h4
    rw [← str_of h3, ← h5, Array.getElem?_toList]
  refine ⟨?_, fun j hj => by rw [hcell j, at_ j hj]⟩
  have := (hcell 0).trans (at_ 0 (by omega))
  exact World.block_lt_of_cell? _ _ this
theorem of_laid {W : World} (h : laidMetH Tryd.prog laids W) : KnC W ∧ Lib.TabIs Tryd.prog W p10Name .u64 Lib.pow10Tab ∧ ∃ cs, W.var? Tryd.prog knName = some cs := by
  rw [MakeChecks.laidMetH_plain _ _ _ (by kernel_rfl)] at h
  have h3 : laidMet Tryd.prog [(knName, Rows.laid_loop_example_flexlayout_impl_kindNames)] W := h.tail.tail.tail
  have h2 : laidMet Tryd.prog ((p10Name, Lib.tabData .u64 Lib.pow10Tab) :: [(knName, Rows.laid_loop_example_flexlayout_impl_kindNames)]) W := h.tail.tail
  refine ⟨knC_of h3, Lib.tabIs_of_head gP10 tP10 Tryd.underlying107 Tryd.underlying88 (by kernel_rfl) (by kernel_rfl) h2, ?_⟩
  obtain ⟨ps, ⟨g0, t0, cs0, f0, p0, q0, hg0, ht0, hv0, hd0, _, _⟩, _, _⟩ := h3
  exact ⟨cs0, hv0⟩
theorem New.grow {a b : World} (h : New a b) (os : Array Obj) : New a (Go.Sort.grow b os) :=
  ⟨h.os, h.tape, h.output, by have := h.size; simp only [Go.Sort.grow, Array.size_append]; omega, fun g hg => by
    have h1 := h.block g hg
    have h2 := h.size
    show (b.heap ++ os)[g]? = _
    rw [Array.getElem?_append_left (by omega)]
    exact h1⟩
theorem itoaC {w : World} (h : Lib.TabIs Tryd.prog w p10Name .u64 Lib.pow10Tab) : ItoaC w := fun u hu W hW => by
  by_cases h100 : u < 100
  · exact (Shf.strconv_Itoa_small u h100 W).mono fun e w' ⟨he, hw⟩ => ⟨he, hw ▸ New.refl _⟩
  · refine (Shf.strconv_Itoa (u : Int) (by omega) (by omega) W (Go.Joins.tab_stays gP10 h hW (Nat.le_refl _))).mono fun e w' ⟨he, k, os, hw⟩ => ⟨?_, ?_⟩
    · have e1 : Lib.itoa (u : Int) = Lib.decDigits u := by unfold Lib.itoa; rw [if_neg (by omega), Int.toNat_natCast]
      rw [he, e1]
    · rw [hw]; exact (New.refl W).drewN k |>.grow os
end Go.Proofs.YtffggmjhaaehlaaDoor
