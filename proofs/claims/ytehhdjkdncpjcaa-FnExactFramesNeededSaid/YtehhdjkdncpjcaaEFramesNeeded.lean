/- The law FnExactFramesNeeded returns true whatever the costs and the budget, and its arguments read afterwards as before: its given statement, proved. No condition. -/
import Derived.Test.YtehhdjkdncpjcaaLawEFramesNeeded
import Derived.Test.YtehhdjkdncpjcaaFrameZ
import Derived.Test.YtehhdjkdncpjcaaRowS
import Derived.Test.YtehhdjkdncpjcaaFacts
namespace Go.Proofs.Ytehhdjkdncpjcaa
open Go.ChangeShapes Go.WideShapes Go.ChangeAt Go.RowKit

set_option maxRecDepth 100000 in
theorem fnExactFramesNeeded_lifted (os : Os) (started : os.Started) (H : Type) (enc : TypeId × Value → H) :
    ReturnsInHanded {} Try.checked os 5 .any (Rows.fnExactFramesNeededSpec.pre6 enc Try.prog Try.f5 Rows.fnExactFramesNeededRow.domain false) (Rows.fnExactFramesNeededSpec.post enc Try.prog Try.f5 false true false false) := by
  refine returnsInHanded_of_change (C := Try.checked) own started (by kernel_rfl) Try.func5
    (ChangeSpec.witness6 (enc := enc) (C := Try.checked) false ⟨#[], #[.slice none 0 0, .int .i64 0], []⟩ 8 (by kernel_rfl) (by kernel_rfl) (by kernel_rfl) (by kernel_rfl)) ?_
  intro W base args ds gs before hval0 hW hcnd _
  have hval : ∀ (j : Nat) t v, Try.f5.params[j]? = some t → args[j]? = some v → Value.okWide Try.prog W .any base t v := hval0
  have hW' := hW
  obtain ⟨p, q, hA0, hV, rfl, hfz, hnd⟩ := hW
  have hA : DataW.TrodAll enc Try.prog W 0 (fun _ => true) true Try.f5.params.toList args.toList ds p := hA0
  rw [Try.params5] at hA hval
  obtain ⟨v0, v1, d0, d1, p0, p1, rfl, rfl, rfl, h0, h1⟩ := trodAll_two hA
  obtain ⟨rfl, rfl⟩ := trodVars_none hV
  obtain ⟨Acs, ncs, ccs, xcs, rfl, hncs, _, hxcs⟩ := open_nums (hval 0 22 v0 rfl rfl) h0
  have lt0 : ∀ x ∈ p0, x.block < W.heap.size := by obtain ⟨k, hk⟩ := h0; exact DataW.trod_lt k _ _ _ hk
  obtain ⟨b, rfl, u1, t1, w1⟩ := open_int Try.underlying3 (hval 1 3 v1 rfl rfl) h1
  have lt1 : ∀ x ∈ p1, x.block < W.heap.size := by obtain ⟨k, hk⟩ := h1; exact DataW.trod_lt k _ _ _ hk
  clear hA0 hval0
  refine (lawExactFramesNeeded Acs ncs ccs xcs b (needA xcs b) (fun B m d W h hm => FramesNeeded_any xcs b B m d W h hm) (fun B m d W h hm => SFramesNeeded_any xcs b B m d W h hm) W hxcs hncs).mono fun e W' ⟨he, hN⟩ => ?_
  subst he
  exact ⟨_, rfl, _, _, _, [], _, [], hW', trodAll_mk1 (shut_bool Try.underlying4 _), trodAll_mk2 (Below.trod fact_laid (by kernel_rfl) (of_decide_eq_true (by kernel_rfl)) h0 hN lt0) (Below.trod fact_laid (by kernel_rfl) (of_decide_eq_true (by kernel_rfl)) h1 hN lt1), rfl, Below.frame hN _, fun h => by cases h⟩

theorem fnExactFramesNeeded_facts : joinedFacts Try.prog 5 Try.f5 Rows.fnExactFramesNeededSpec Rows.fnExactFramesNeededRow = true := by
  unfold joinedFacts
  rw [fact_laid, fact_maps, fact_heard, fact_enter, fact_make, fact_final]
  kernel_rfl
theorem fnExactFramesNeeded_named : Try.prog.funcNamed Rows.fnExactFramesNeededRow.func = some 5 := by kernel_rfl
theorem fnExactFramesNeeded_instance : Try.f5.isInstance Try.prog Rows.fnExactFramesNeededRow.origin Rows.fnExactFramesNeededRow.targs := of_decide_eq_true (by kernel_rfl)
theorem fnExactFramesNeeded_holds : Rows.FnExactFramesNeededSaid :=
  OpenClaim.holds_of_wide 5 Try.f5 rfl rfl rfl rfl rfl rfl rfl ⟨rfl, rfl, rfl, rfl, rfl⟩ rfl rfl rfl rfl rfl fnExactFramesNeeded_named Try.func5 fnExactFramesNeeded_facts
    fnExactFramesNeeded_instance (by unfold Func.isWrapper; first | (rw [if_pos (by decide +kernel)]; kernel_rfl) | (rw [if_neg (by decide +kernel)]; exact ⟨rfl, rfl⟩))
    (fun os started H enc _ => fnExactFramesNeeded_lifted os started H enc)
#print axioms fnExactFramesNeeded_holds
end Go.Proofs.Ytehhdjkdncpjcaa
