/- The law FnExactFinishFrames returns true whatever the costs and the budgets, and its arguments read afterwards as before: its given statement, proved. No condition. -/
import Derived.Test.YtehhdjkdncpjcaaLawEFinishFrames
import Derived.Test.YtehhdjkdncpjcaaFrameY
import Derived.Test.YtehhdjkdncpjcaaRowS
import Derived.Test.YtehhdjkdncpjcaaFacts
namespace Go.Proofs.Ytehhdjkdncpjcaa
open Go.ChangeShapes Go.WideShapes Go.ChangeAt Go.RowKit

set_option maxRecDepth 100000 in
theorem fnExactFinishFrames_lifted (os : Os) (started : os.Started) (H : Type) (enc : TypeId × Value → H) :
    ReturnsInHanded {} Try.checked os 3 .any (Rows.fnExactFinishFramesSpec.pre6 enc Try.prog Try.f3 Rows.fnExactFinishFramesRow.domain false) (Rows.fnExactFinishFramesSpec.post enc Try.prog Try.f3 false true false false) := by
  refine returnsInHanded_of_change (C := Try.checked) own started (by kernel_rfl) Try.func3
    (ChangeSpec.witness6 (enc := enc) (C := Try.checked) false ⟨#[], #[.slice none 0 0, .slice none 0 0], []⟩ 8 (by kernel_rfl) (by kernel_rfl) (by kernel_rfl) (by kernel_rfl)) ?_
  intro W base args ds gs before hval0 hW hcnd _
  have hval : ∀ (j : Nat) t v, Try.f3.params[j]? = some t → args[j]? = some v → Value.okWide Try.prog W .any base t v := hval0
  have hW' := hW
  obtain ⟨p, q, hA0, hV, rfl, hfz, hnd⟩ := hW
  have hA : DataW.TrodAll enc Try.prog W 0 (fun _ => true) true Try.f3.params.toList args.toList ds p := hA0
  rw [Try.params3] at hA hval
  obtain ⟨v0, v1, d0, d1, p0, p1, rfl, rfl, rfl, h0, h1⟩ := trodAll_two hA
  obtain ⟨rfl, rfl⟩ := trodVars_none hV
  obtain ⟨Acs, ncs, ccs, xcs, rfl, hncs, _, hxcs⟩ := open_nums (hval 0 22 v0 rfl rfl) h0
  have lt0 : ∀ x ∈ p0, x.block < W.heap.size := by obtain ⟨k, hk⟩ := h0; exact DataW.trod_lt k _ _ _ hk
  obtain ⟨Abs, nbs, cbs, xbs, rfl, hnbs, _, hxbs⟩ := open_nums (hval 1 22 v1 rfl rfl) h1
  have lt1 : ∀ x ∈ p1, x.block < W.heap.size := by obtain ⟨k, hk⟩ := h1; exact DataW.trod_lt k _ _ _ hk
  clear hA0 hval0
  refine (lawExactFinishFrames Acs ncs ccs xcs Abs nbs cbs xbs (doneA xcs xbs) (by have := doneA_len (cs := xcs) (bs := xbs); omega) (fun B m d B' m' d' W h h' hm hm' => FinishFrames_ans xcs xbs B m d B' m' d' W h h' hm hm') (fun B m d B' m' d' W h h' hm hm' => SFinishFrames_ans xcs xbs B m d B' m' d' W h h' hm hm') W hxcs hncs hxbs hnbs).mono fun e W' ⟨he, hN⟩ => ?_
  subst he
  exact ⟨_, rfl, _, _, _, [], _, [], hW', trodAll_mk1 (shut_bool Try.underlying4 _), trodAll_mk2 (Below.trod fact_laid (by kernel_rfl) (of_decide_eq_true (by kernel_rfl)) h0 hN lt0) (Below.trod fact_laid (by kernel_rfl) (of_decide_eq_true (by kernel_rfl)) h1 hN lt1), rfl, Below.frame hN _, fun h => by cases h⟩

theorem fnExactFinishFrames_facts : joinedFacts Try.prog 3 Try.f3 Rows.fnExactFinishFramesSpec Rows.fnExactFinishFramesRow = true := by
  unfold joinedFacts
  rw [fact_laid, fact_maps, fact_heard, fact_enter, fact_make, fact_final]
  kernel_rfl
theorem fnExactFinishFrames_named : Try.prog.funcNamed Rows.fnExactFinishFramesRow.func = some 3 := by kernel_rfl
theorem fnExactFinishFrames_instance : Try.f3.isInstance Try.prog Rows.fnExactFinishFramesRow.origin Rows.fnExactFinishFramesRow.targs := of_decide_eq_true (by kernel_rfl)
theorem fnExactFinishFrames_holds : Rows.FnExactFinishFramesSaid :=
  OpenClaim.holds_of_wide 3 Try.f3 rfl rfl rfl rfl rfl rfl rfl ⟨rfl, rfl, rfl, rfl, rfl⟩ rfl rfl rfl rfl rfl fnExactFinishFrames_named Try.func3 fnExactFinishFrames_facts
    fnExactFinishFrames_instance (by unfold Func.isWrapper; first | (rw [if_pos (by decide +kernel)]; kernel_rfl) | (rw [if_neg (by decide +kernel)]; exact ⟨rfl, rfl⟩))
    (fun os started H enc _ => fnExactFinishFrames_lifted os started H enc)
#print axioms fnExactFinishFrames_holds
end Go.Proofs.Ytehhdjkdncpjcaa
