/- The law FnExactValidRect returns true whatever the rectangle, and its arguments read afterwards as before: its given statement, proved. No condition. -/
import Derived.Test.YtadoemojppkmpaaExactA
import Derived.Test.YtadoemojppkmpaaRow
import Derived.Test.YtadoemojppkmpaaFacts
namespace Go.Proofs.Ytadoemojppkmpaa
open Go.ChangeShapes Go.WideShapes Go.ChangeAt Go.RowKit

set_option maxRecDepth 100000 in
theorem fnExactValidRect_lifted (os : Os) (started : os.Started) (H : Type) (enc : TypeId × Value → H) :
    ReturnsInHanded {} Try.checked os 15 .any (Rows.fnExactValidRectSpec.pre6 enc Try.prog Try.f15 Rows.fnExactValidRectRow.domain false) (Rows.fnExactValidRectSpec.post enc Try.prog Try.f15 false true false false) := by
  refine returnsInHanded_of_change (C := Try.checked) own started (by kernel_rfl) Try.func15
    (ChangeSpec.witness6 (enc := enc) (C := Try.checked) false ⟨#[], #[rc 0 0 0 0], []⟩ 8 (by kernel_rfl) (by kernel_rfl) (by kernel_rfl) (by kernel_rfl)) ?_
  intro W base args ds gs before hval0 hW hcnd _
  have hval : ∀ (j : Nat) t v, Try.f15.params[j]? = some t → args[j]? = some v → Value.okWide Try.prog W .any base t v := hval0
  have hW' := hW
  obtain ⟨p, q, hA0, hV, rfl, hfz, hnd⟩ := hW
  have hA : DataW.TrodAll enc Try.prog W 0 (fun _ => true) true Try.f15.params.toList args.toList ds p := hA0
  rw [Try.params15] at hA hval
  obtain ⟨v0, d0, rfl, rfl, h0⟩ := trodAll_one hA
  obtain ⟨rfl, rfl⟩ := trodVars_none hV
  obtain ⟨x, y, ww, hh, rfl, rfl, s0⟩ := open_rect (hval 0 39 v0 rfl rfl) h0
  clear hA0 hval0
  simp only [List.append_nil] at hW'
  refine (lawExactValidRect x y ww hh W).mono fun e W' ⟨he, hN⟩ => ?_
  subst he
  exact ⟨_, rfl, post_new (pa := []) (pv := []) hW' hN rfl (fun _ _ _ => trodAll_mk1 (shut_bool Try.underlying4 _)) (fun sp _ => trodAll_mk1 (s0 _ _ _ _)) (fun _ _ => rfl) (ok_one (by kernel_rfl) rfl (okWide_bool_mk Try.underlying4 _))⟩

theorem fnExactValidRect_facts : joinedFacts Try.prog 15 Try.f15 Rows.fnExactValidRectSpec Rows.fnExactValidRectRow = true := by
  unfold joinedFacts
  rw [fact_laid, fact_maps, fact_heard, fact_enter, fact_make, fact_final]
  kernel_rfl
theorem fnExactValidRect_named : Try.prog.funcNamed Rows.fnExactValidRectRow.func = some 15 := by kernel_rfl
theorem fnExactValidRect_instance : Try.f15.isInstance Try.prog Rows.fnExactValidRectRow.origin Rows.fnExactValidRectRow.targs := of_decide_eq_true (by kernel_rfl)
theorem fnExactValidRect_holds : Rows.FnExactValidRectSaid :=
  OpenClaim.holds_of_wide 15 Try.f15 rfl rfl rfl rfl rfl rfl rfl ⟨rfl, rfl, rfl, rfl, rfl⟩ rfl rfl rfl rfl rfl fnExactValidRect_named Try.func15 fnExactValidRect_facts
    fnExactValidRect_instance (by unfold Func.isWrapper; first | (rw [if_pos (by decide +kernel)]; kernel_rfl) | (rw [if_neg (by decide +kernel)]; exact ⟨rfl, rfl⟩))
    (fun os started H enc _ => fnExactValidRect_lifted os started H enc)
#print axioms fnExactValidRect_holds
end Go.Proofs.Ytadoemojppkmpaa
