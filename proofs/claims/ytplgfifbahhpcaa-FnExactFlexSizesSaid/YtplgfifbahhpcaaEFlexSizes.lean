/- The law FnExactFlexSizes returns true whatever the sizes and the space, and its arguments read afterwards as before: its given statement, proved. No condition. -/
import Derived.Test.YtplgfifbahhpcaaLawEFlexSizes
import Derived.Test.YtplgfifbahhpcaaFlexZ
import Derived.Test.YtplgfifbahhpcaaRowF
import Derived.Test.YtplgfifbahhpcaaFacts
namespace Go.Proofs.Ytplgfifbahhpcaa
open Go.ChangeShapes Go.WideShapes Go.ChangeAt Go.RowKit

set_option maxRecDepth 100000 in
theorem fnExactFlexSizes_lifted (os : Os) (started : os.Started) (H : Type) (enc : TypeId × Value → H) :
    ReturnsInHanded {} Try.checked os 14 .any (Rows.fnExactFlexSizesSpec.pre6 enc Try.prog Try.f14 Rows.fnExactFlexSizesRow.domain false) (Rows.fnExactFlexSizesSpec.post enc Try.prog Try.f14 false true false false) := by
  refine returnsInHanded_of_change (C := Try.checked) own started (by kernel_rfl) Try.func14
    (ChangeSpec.witness6 (enc := enc) (C := Try.checked) false ⟨#[], #[.slice none 0 0, .int .i64 0], []⟩ 8 (by kernel_rfl) (by kernel_rfl) (by kernel_rfl) (by kernel_rfl)) ?_
  intro W base args ds gs before hval0 hW hcnd _
  have hval : ∀ (j : Nat) t v, Try.f14.params[j]? = some t → args[j]? = some v → Value.okWide Try.prog W .any base t v := hval0
  have hW' := hW
  obtain ⟨p, q, hA0, hV, rfl, hfz, hnd⟩ := hW
  have hA : DataW.TrodAll enc Try.prog W 0 (fun _ => true) true Try.f14.params.toList args.toList ds p := hA0
  rw [Try.params14] at hA hval
  obtain ⟨v0, v1, d0, d1, p0, p1, rfl, rfl, rfl, h0, h1⟩ := trodAll_two hA
  obtain ⟨rfl, rfl⟩ := trodVars_none hV
  obtain ⟨Al, nl, cl, xl, rfl, hnl, hxl⟩ := open_FlexS (hval 0 37 v0 rfl rfl) h0
  have lt0 : ∀ x ∈ p0, x.block < W.heap.size := by obtain ⟨k, hk⟩ := h0; exact DataW.trod_lt k _ _ _ hk
  obtain ⟨s, rfl, u1, t1, w1⟩ := open_int Try.underlying3 (hval 1 3 v1 rfl rfl) h1
  have lt1 : ∀ x ∈ p1, x.block < W.heap.size := by obtain ⟨k, hk⟩ := h1; exact DataW.trod_lt k _ _ _ hk
  clear hA0 hval0
  refine (lawExactFlexSizes Al nl cl xl s (flexA nl xl s) (by have := flexA_len nl xl s; omega) (fun B m d W h hm => by have e : m = nl := by { have h1 := h.len; have h2 := hxl.len; omega }; subst e; exact FlexSizes_ans xl s B m d W h hm) (fun B m d W h hm => by have e : m = nl := by { have h1 := h.len; have h2 := hxl.len; omega }; subst e; exact SFlexSizes_ans xl s B m d W h hm) W hxl hnl).mono fun e W' ⟨he, hN⟩ => ?_
  subst he
  exact ⟨_, rfl, _, _, _, [], _, [], hW', trodAll_mk1 (shut_bool Try.underlying4 _), trodAll_mk2 (Below.trod fact_laid (by kernel_rfl) (of_decide_eq_true (by kernel_rfl)) h0 hN lt0) (Below.trod fact_laid (by kernel_rfl) (of_decide_eq_true (by kernel_rfl)) h1 hN lt1), rfl, Below.frame hN _, fun h => by cases h⟩

theorem fnExactFlexSizes_facts : joinedFacts Try.prog 14 Try.f14 Rows.fnExactFlexSizesSpec Rows.fnExactFlexSizesRow = true := by
  unfold joinedFacts
  rw [fact_laid, fact_maps, fact_heard, fact_enter, fact_make, fact_final]
  kernel_rfl
theorem fnExactFlexSizes_named : Try.prog.funcNamed Rows.fnExactFlexSizesRow.func = some 14 := by kernel_rfl
theorem fnExactFlexSizes_instance : Try.f14.isInstance Try.prog Rows.fnExactFlexSizesRow.origin Rows.fnExactFlexSizesRow.targs := of_decide_eq_true (by kernel_rfl)
theorem fnExactFlexSizes_holds : Rows.FnExactFlexSizesSaid :=
  OpenClaim.holds_of_wide 14 Try.f14 rfl rfl rfl rfl rfl rfl rfl ⟨rfl, rfl, rfl, rfl, rfl⟩ rfl rfl rfl rfl rfl fnExactFlexSizes_named Try.func14 fnExactFlexSizes_facts
    fnExactFlexSizes_instance (by unfold Func.isWrapper; first | (rw [if_pos (by decide +kernel)]; kernel_rfl) | (rw [if_neg (by decide +kernel)]; exact ⟨rfl, rfl⟩))
    (fun os started H enc _ => fnExactFlexSizes_lifted os started H enc)
#print axioms fnExactFlexSizes_holds
end Go.Proofs.Ytplgfifbahhpcaa
