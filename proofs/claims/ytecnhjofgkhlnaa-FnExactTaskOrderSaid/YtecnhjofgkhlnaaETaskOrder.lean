/- The law FnExactTaskOrder returns true whatever the tasks, and its arguments read afterwards as before: its given statement, proved. No condition. -/
import Derived.Test.YtecnhjofgkhlnaaLawETaskOrder
import Derived.Test.YtecnhjofgkhlnaaHeapE
import Derived.Test.YtecnhjofgkhlnaaHeapV
import Derived.Test.YtecnhjofgkhlnaaRowTask
import Derived.Test.YtecnhjofgkhlnaaFacts
namespace Go.Proofs.Ytecnhjofgkhlnaa
open Go.ChangeShapes Go.WideShapes Go.ChangeAt Go.RowKit

set_option maxRecDepth 100000 in
theorem fnExactTaskOrder_lifted (os : Os) (started : os.Started) (H : Type) (enc : TypeId × Value → H) :
    ReturnsInHanded {} Try.checked os 6 .any (Rows.fnExactTaskOrderSpec.pre6 enc Try.prog Try.f6 Rows.fnExactTaskOrderRow.domain false) (Rows.fnExactTaskOrderSpec.post enc Try.prog Try.f6 false true false false) := by
  refine returnsInHanded_of_change (C := Try.checked) own started (by kernel_rfl) Try.func6
    (ChangeSpec.witness6 (enc := enc) (C := Try.checked) false ⟨#[], #[.slice none 0 0], []⟩ 8 (by kernel_rfl) (by kernel_rfl) (by kernel_rfl) (by kernel_rfl)) ?_
  intro W base args ds gs before hval0 hW hcnd _
  have hval : ∀ (j : Nat) t v, Try.f6.params[j]? = some t → args[j]? = some v → Value.okWide Try.prog W .any base t v := hval0
  have hW' := hW
  obtain ⟨p, q, hA0, hV, rfl, hfz, hnd⟩ := hW
  have hA : DataW.TrodAll enc Try.prog W 0 (fun _ => true) true Try.f6.params.toList args.toList ds p := hA0
  rw [Try.params6] at hA hval
  obtain ⟨v0, d0, rfl, rfl, h0⟩ := trodAll_one hA
  obtain ⟨rfl, rfl⟩ := trodVars_none hV
  obtain ⟨Al, nl, cl, xl, rfl, hnl, hxl⟩ := open_TaskS (hval 0 22 v0 rfl rfl) h0
  have lt0 : ∀ x ∈ p, x.block < W.heap.size := by obtain ⟨k, hk⟩ := h0; exact DataW.trod_lt k _ _ _ hk
  clear hA0 hval0
  refine (lawExactTaskOrder Al nl cl xl (ordA nl xl) (ordA_len nl xl) (fun B m d W h hm => by have e : m = nl := by { have h1 := h.len; have h2 := hxl.len; omega }; subst e; exact TaskOrder_ans B m d xl hm W h) (fun B m d W h hm => by have e : m = nl := by { have h1 := h.len; have h2 := hxl.len; omega }; subst e; exact STaskOrder_ans B m d xl hm W h) W hxl hnl).mono fun e W' ⟨he, hN⟩ => ?_
  subst he
  exact ⟨_, rfl, _, _, _, [], _, [], hW', trodAll_mk1 (shut_bool Try.underlying4 _), trodAll_mk1 (Below.trod fact_laid (by kernel_rfl) (of_decide_eq_true (by kernel_rfl)) h0 hN lt0), rfl, Below.frame hN _, fun h => by cases h⟩

theorem fnExactTaskOrder_facts : joinedFacts Try.prog 6 Try.f6 Rows.fnExactTaskOrderSpec Rows.fnExactTaskOrderRow = true := by
  unfold joinedFacts
  rw [fact_laid, fact_maps, fact_heard, fact_enter, fact_make, fact_final]
  kernel_rfl
theorem fnExactTaskOrder_named : Try.prog.funcNamed Rows.fnExactTaskOrderRow.func = some 6 := by kernel_rfl
theorem fnExactTaskOrder_instance : Try.f6.isInstance Try.prog Rows.fnExactTaskOrderRow.origin Rows.fnExactTaskOrderRow.targs := of_decide_eq_true (by kernel_rfl)
theorem fnExactTaskOrder_holds : Rows.FnExactTaskOrderSaid :=
  OpenClaim.holds_of_wide 6 Try.f6 rfl rfl rfl rfl rfl rfl rfl ⟨rfl, rfl, rfl, rfl, rfl⟩ rfl rfl rfl rfl rfl fnExactTaskOrder_named Try.func6 fnExactTaskOrder_facts
    fnExactTaskOrder_instance (by unfold Func.isWrapper; first | (rw [if_pos (by decide +kernel)]; kernel_rfl) | (rw [if_neg (by decide +kernel)]; exact ⟨rfl, rfl⟩))
    (fun os started H enc _ => fnExactTaskOrder_lifted os started H enc)
#print axioms fnExactTaskOrder_holds
end Go.Proofs.Ytecnhjofgkhlnaa
