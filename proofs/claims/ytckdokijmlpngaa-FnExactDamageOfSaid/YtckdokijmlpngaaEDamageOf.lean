/- The law FnExactDamageOf returns true whatever the rows, and its arguments read afterwards as before: its given statement, proved. No condition. -/
import Derived.Test.YtckdokijmlpngaaLawEDamageOf
import Derived.Test.YtckdokijmlpngaaDmgR
import Derived.Test.YtckdokijmlpngaaRowRect
import Derived.Test.YtckdokijmlpngaaFacts
namespace Go.Proofs.Ytckdokijmlpngaa
open Go.ChangeShapes Go.WideShapes Go.ChangeAt Go.RowKit

set_option maxRecDepth 100000 in
theorem fnExactDamageOf_lifted (os : Os) (started : os.Started) (H : Type) (enc : TypeId × Value → H) :
    ReturnsInHanded {} Try.checked os 4 .any (Rows.fnExactDamageOfSpec.pre6 enc Try.prog Try.f4 Rows.fnExactDamageOfRow.domain false) (Rows.fnExactDamageOfSpec.post enc Try.prog Try.f4 false true false false) := by
  refine returnsInHanded_of_change (C := Try.checked) own started (by kernel_rfl) Try.func4
    (ChangeSpec.witness6 (enc := enc) (C := Try.checked) false ⟨#[], #[.slice none 0 0, .slice none 0 0], []⟩ 8 (by kernel_rfl) (by kernel_rfl) (by kernel_rfl) (by kernel_rfl)) ?_
  intro W base args ds gs before hval0 hW hcnd _
  have hval : ∀ (j : Nat) t v, Try.f4.params[j]? = some t → args[j]? = some v → Value.okWide Try.prog W .any base t v := hval0
  have hW' := hW
  obtain ⟨p, q, hA0, hV, rfl, hfz, hnd⟩ := hW
  have hA : DataW.TrodAll enc Try.prog W 0 (fun _ => true) true Try.f4.params.toList args.toList ds p := hA0
  rw [Try.params4] at hA hval
  obtain ⟨v0, v1, d0, d1, p0, p1, rfl, rfl, rfl, h0, h1⟩ := trodAll_two hA
  obtain ⟨rfl, rfl⟩ := trodVars_none hV
  obtain ⟨Ax, nx, cx, xx, rfl, hnx, hxx⟩ := open_RectS (hval 0 22 v0 rfl rfl) h0
  have lt0 : ∀ x ∈ p0, x.block < W.heap.size := by obtain ⟨k, hk⟩ := h0; exact DataW.trod_lt k _ _ _ hk
  obtain ⟨Ay, ny, cy, xy, rfl, hny, hxy⟩ := open_RectS (hval 1 22 v1 rfl rfl) h1
  have lt1 : ∀ x ∈ p1, x.block < W.heap.size := by obtain ⟨k, hk⟩ := h1; exact DataW.trod_lt k _ _ _ hk
  clear hA0 hval0
  refine (lawExactDamageOf Ax nx cx xx Ay ny cy xy (dmQ nx ny xx xy).1 (dmQ nx ny xx xy).2.1 (dmQ nx ny xx xy).2.2.1 (dmQ nx ny xx xy).2.2.2 (dmB nx ny xx xy) (fun B q d E r t W h k hm hm' => by have e : q = nx := by { have h1 := h.len; have h2 := hxx.len; omega }; have e' : r = ny := by { have h1 := k.len; have h2 := hxy.len; omega }; subst e; subst e'; exact DamageOf_any B E q d r t xx xy hm hm' W h k) (fun B q d E r t W h k hm hm' => by have e : q = nx := by { have h1 := h.len; have h2 := hxx.len; omega }; have e' : r = ny := by { have h1 := k.len; have h2 := hxy.len; omega }; subst e; subst e'; exact SDamageOf_any B E q d r t xx xy hm hm' W h k) W hxx hnx hxy hny).mono fun e W' ⟨he, hN⟩ => ?_
  subst he
  exact ⟨_, rfl, _, _, _, [], _, [], hW', trodAll_mk1 (shut_bool Try.underlying4 _), trodAll_mk2 (Below.trod fact_laid (by kernel_rfl) (of_decide_eq_true (by kernel_rfl)) h0 hN lt0) (Below.trod fact_laid (by kernel_rfl) (of_decide_eq_true (by kernel_rfl)) h1 hN lt1), rfl, Below.frame hN _, fun h => by cases h⟩

theorem fnExactDamageOf_facts : joinedFacts Try.prog 4 Try.f4 Rows.fnExactDamageOfSpec Rows.fnExactDamageOfRow = true := by
  unfold joinedFacts
  rw [fact_laid, fact_maps, fact_heard, fact_enter, fact_make, fact_final]
  kernel_rfl
theorem fnExactDamageOf_named : Try.prog.funcNamed Rows.fnExactDamageOfRow.func = some 4 := by kernel_rfl
theorem fnExactDamageOf_instance : Try.f4.isInstance Try.prog Rows.fnExactDamageOfRow.origin Rows.fnExactDamageOfRow.targs := of_decide_eq_true (by kernel_rfl)
theorem fnExactDamageOf_holds : Rows.FnExactDamageOfSaid :=
  OpenClaim.holds_of_wide 4 Try.f4 rfl rfl rfl rfl rfl rfl rfl ⟨rfl, rfl, rfl, rfl, rfl⟩ rfl rfl rfl rfl rfl fnExactDamageOf_named Try.func4 fnExactDamageOf_facts
    fnExactDamageOf_instance (by unfold Func.isWrapper; first | (rw [if_pos (by decide +kernel)]; kernel_rfl) | (rw [if_neg (by decide +kernel)]; exact ⟨rfl, rfl⟩))
    (fun os started H enc _ => fnExactDamageOf_lifted os started H enc)
#print axioms fnExactDamageOf_holds
end Go.Proofs.Ytckdokijmlpngaa
