/- The law FnExactChangedRects returns true whatever the rows, and its arguments read afterwards as before: its given statement, proved. No condition. -/
import Derived.Test.YtckdokijmlpngaaLawEChangedRects
import Derived.Test.YtckdokijmlpngaaChgR
import Derived.Test.YtckdokijmlpngaaRowRect
import Derived.Test.YtckdokijmlpngaaRowS
import Derived.Test.YtckdokijmlpngaaFacts
namespace Go.Proofs.Ytckdokijmlpngaa
open Go.ChangeShapes Go.WideShapes Go.ChangeAt Go.RowKit

set_option maxRecDepth 100000 in
theorem fnExactChangedRects_lifted (os : Os) (started : os.Started) (H : Type) (enc : TypeId × Value → H) :
    ReturnsInHanded {} Try.checked os 3 .any (Rows.fnExactChangedRectsSpec.pre6 enc Try.prog Try.f3 Rows.fnExactChangedRectsRow.domain false) (Rows.fnExactChangedRectsSpec.post enc Try.prog Try.f3 false true false false) := by
  refine returnsInHanded_of_change (C := Try.checked) own started (by kernel_rfl) Try.func3
    (ChangeSpec.witness6 (enc := enc) (C := Try.checked) false ⟨#[], #[.slice none 0 0, .slice none 0 0], []⟩ 8 (by kernel_rfl) (by kernel_rfl) (by kernel_rfl) (by kernel_rfl)) ?_
  intro W base args ds gs before hval0 hW hcnd _
  have hval : ∀ (j : Nat) t v, Try.f3.params[j]? = some t → args[j]? = some v → Value.okWide Try.prog W .any base t v := hval0
  have hW' := hW
  obtain ⟨p, q, hA0, hV, rfl, hfz, hnd⟩ := hW
  have hA : DataW.TrodAll enc Try.prog W 0 (fun _ => true) true Try.f3.params.toList args.toList ds p := hA0
  rw [Try.params3] at hA hval
  obtain ⟨v0, v1, d0, d1, p0, p1, rfl, rfl, rfl, h0, h1⟩ := trodAll_two hA
  obtain ⟨rfl, rfl⟩ := trodVars_none hV
  obtain ⟨Ax, nx, cx, xx, rfl, hnx, hxx⟩ := open_RectS (hval 0 22 v0 rfl rfl) h0
  have lt0 : ∀ x ∈ p0, x.block < W.heap.size := by obtain ⟨k, hk⟩ := h0; exact DataW.trod_lt k _ _ _ hk
  obtain ⟨Ay, ny, cy, xy, rfl, hny, hxy⟩ := open_RectS (hval 1 22 v1 rfl rfl) h1
  have lt1 : ∀ x ∈ p1, x.block < W.heap.size := by obtain ⟨k, hk⟩ := h1; exact DataW.trod_lt k _ _ _ hk
  clear hA0 hval0
  refine (lawExactChangedRects Ax nx cx xx Ay ny cy xy (chgA nx ny xx xy) (by have := chgA_len nx ny xx xy; omega) (fun B q d E r t W h k hm hm' => by have e : q = nx := by { have h1 := h.len; have h2 := hxx.len; omega }; have e' : r = ny := by { have h1 := k.len; have h2 := hxy.len; omega }; subst e; subst e'; exact ChangedRects_ans B E q d r t xx xy hm hm' W h k) (fun B q d E r t W h k hm hm' => by have e : q = nx := by { have h1 := h.len; have h2 := hxx.len; omega }; have e' : r = ny := by { have h1 := k.len; have h2 := hxy.len; omega }; subst e; subst e'; exact SChangedRects_ans B E q d r t xx xy hm hm' W h k) W hxx hnx hxy hny).mono fun e W' ⟨he, hN⟩ => ?_
  subst he
  exact ⟨_, rfl, _, _, _, [], _, [], hW', trodAll_mk1 (shut_bool Try.underlying4 _), trodAll_mk2 (Below.trod fact_laid (by kernel_rfl) (of_decide_eq_true (by kernel_rfl)) h0 hN lt0) (Below.trod fact_laid (by kernel_rfl) (of_decide_eq_true (by kernel_rfl)) h1 hN lt1), rfl, Below.frame hN _, fun h => by cases h⟩

theorem fnExactChangedRects_facts : joinedFacts Try.prog 3 Try.f3 Rows.fnExactChangedRectsSpec Rows.fnExactChangedRectsRow = true := by
  unfold joinedFacts
  rw [fact_laid, fact_maps, fact_heard, fact_enter, fact_make, fact_final]
  kernel_rfl
theorem fnExactChangedRects_named : Try.prog.funcNamed Rows.fnExactChangedRectsRow.func = some 3 := by kernel_rfl
theorem fnExactChangedRects_instance : Try.f3.isInstance Try.prog Rows.fnExactChangedRectsRow.origin Rows.fnExactChangedRectsRow.targs := of_decide_eq_true (by kernel_rfl)
theorem fnExactChangedRects_holds : Rows.FnExactChangedRectsSaid :=
  OpenClaim.holds_of_wide 3 Try.f3 rfl rfl rfl rfl rfl rfl rfl ⟨rfl, rfl, rfl, rfl, rfl⟩ rfl rfl rfl rfl rfl fnExactChangedRects_named Try.func3 fnExactChangedRects_facts
    fnExactChangedRects_instance (by unfold Func.isWrapper; first | (rw [if_pos (by decide +kernel)]; kernel_rfl) | (rw [if_neg (by decide +kernel)]; exact ⟨rfl, rfl⟩))
    (fun os started H enc _ => fnExactChangedRects_lifted os started H enc)
#print axioms fnExactChangedRects_holds
end Go.Proofs.Ytckdokijmlpngaa
