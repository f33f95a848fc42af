/- The law FnExactWorkLeft returns true whatever the costs and the budgets, and its arguments read afterwards as before: its given statement, proved. No condition. -/
import Derived.Test.YtehhdjkdncpjcaaLawEWorkLeft
import Derived.Test.YtehhdjkdncpjcaaFrameZ
import Derived.Test.YtehhdjkdncpjcaaRowS
import Derived.Test.YtehhdjkdncpjcaaFacts
namespace Go.Proofs.Ytehhdjkdncpjcaa
open Go.ChangeShapes Go.WideShapes Go.ChangeAt Go.RowKit

set_option maxRecDepth 100000 in
theorem fnExactWorkLeft_lifted (os : Os) (started : os.Started) (H : Type) (enc : TypeId × Value → H) :
    ReturnsInHanded {} Try.checked os 4 .any (Rows.fnExactWorkLeftSpec.pre6 enc Try.prog Try.f4 Rows.fnExactWorkLeftRow.domain false) (Rows.fnExactWorkLeftSpec.post enc Try.prog Try.f4 false true false false) := by
  refine returnsInHanded_of_change (C := Try.checked) own started (by kernel_rfl) Try.func4
    (ChangeSpec.witness6 (enc := enc) (C := Try.checked) false ⟨#[], #[.slice none 0 0, .slice none 0 0], []⟩ 8 (by kernel_rfl) (by kernel_rfl) (by kernel_rfl) (by kernel_rfl)) ?_
  intro W base args ds gs before hval0 hW hcnd _
  have hval : ∀ (j : Nat) t v, Try.f4.params[j]? = some t → args[j]? = some v → Value.okWide Try.prog W .any base t v := hval0
  have hW' := hW
  obtain ⟨p, q, hA0, hV, rfl, hfz, hnd⟩ := hW
  have hA : DataW.TrodAll enc Try.prog W 0 (fun _ => true) true Try.f4.params.toList args.toList ds p := hA0
  rw [Try.params4] at hA hval
  obtain ⟨v0, v1, d0, d1, p0, p1, rfl, rfl, rfl, h0, h1⟩ := trodAll_two hA
  obtain ⟨rfl, rfl⟩ := trodVars_none hV
  obtain ⟨Acs, ncs, ccs, xcs, rfl, hncs, _, hxcs⟩ := open_nums (hval 0 22 v0 rfl rfl) h0
  have lt0 : ∀ x ∈ p0, x.block < W.heap.size := by obtain ⟨k, hk⟩ := h0; exact DataW.trod_lt k _ _ _ hk
  obtain ⟨Abs, nbs, cbs, xbs, rfl, hnbs, _, hxbs⟩ := open_nums (hval 1 22 v1 rfl rfl) h1
  have lt1 : ∀ x ∈ p1, x.block < W.heap.size := by obtain ⟨k, hk⟩ := h1; exact DataW.trod_lt k _ _ _ hk
  clear hA0 hval0
  refine (lawExactWorkLeft Acs ncs ccs xcs Abs nbs cbs xbs (remA xcs xbs) (by have := remA_len (cs := xcs) (bs := xbs); omega) (fun B m d B' m' d' W h h' hm hm' => WorkLeft_ans xcs xbs B m d B' m' d' W h h' hm hm') (fun B m d B' m' d' W h h' hm hm' => SWorkLeft_ans xcs xbs B m d B' m' d' W h h' hm hm') W hxcs hncs hxbs hnbs).mono fun e W' ⟨he, hN⟩ => ?_
  subst he
  exact ⟨_, rfl, _, _, _, [], _, [], hW', trodAll_mk1 (shut_bool Try.underlying4 _), trodAll_mk2 (Below.trod fact_laid (by kernel_rfl) (of_decide_eq_true (by kernel_rfl)) h0 hN lt0) (Below.trod fact_laid (by kernel_rfl) (of_decide_eq_true (by kernel_rfl)) h1 hN lt1), rfl, Below.frame hN _, fun h => by cases h⟩

theorem fnExactWorkLeft_facts : joinedFacts Try.prog 4 Try.f4 Rows.fnExactWorkLeftSpec Rows.fnExactWorkLeftRow = true := by
  unfold joinedFacts
  rw [fact_laid, fact_maps, fact_heard, fact_enter, fact_make, fact_final]
  kernel_rfl
theorem fnExactWorkLeft_named : Try.prog.funcNamed Rows.fnExactWorkLeftRow.func = some 4 := by kernel_rfl
theorem fnExactWorkLeft_instance : Try.f4.isInstance Try.prog Rows.fnExactWorkLeftRow.origin Rows.fnExactWorkLeftRow.targs := of_decide_eq_true (by kernel_rfl)
theorem fnExactWorkLeft_holds : Rows.FnExactWorkLeftSaid :=
  OpenClaim.holds_of_wide 4 Try.f4 rfl rfl rfl rfl rfl rfl rfl ⟨rfl, rfl, rfl, rfl, rfl⟩ rfl rfl rfl rfl rfl fnExactWorkLeft_named Try.func4 fnExactWorkLeft_facts
    fnExactWorkLeft_instance (by unfold Func.isWrapper; first | (rw [if_pos (by decide +kernel)]; kernel_rfl) | (rw [if_neg (by decide +kernel)]; exact ⟨rfl, rfl⟩))
    (fun os started H enc _ => fnExactWorkLeft_lifted os started H enc)
#print axioms fnExactWorkLeft_holds
end Go.Proofs.Ytehhdjkdncpjcaa
