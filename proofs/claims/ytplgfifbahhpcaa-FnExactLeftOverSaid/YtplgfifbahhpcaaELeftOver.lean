/- The law FnExactLeftOver returns true whatever the sizes and the space, and its arguments read afterwards as before: its given statement, proved. No condition. -/
import Derived.Test.YtplgfifbahhpcaaLawELeftOver
import Derived.Test.YtplgfifbahhpcaaFlexZ
import Derived.Test.YtplgfifbahhpcaaRowF
import Derived.Test.YtplgfifbahhpcaaFacts
namespace Go.Proofs.Ytplgfifbahhpcaa
open Go.ChangeShapes Go.WideShapes Go.ChangeAt Go.RowKit

set_option maxRecDepth 100000 in
theorem fnExactLeftOver_lifted (os : Os) (started : os.Started) (H : Type) (enc : TypeId × Value → H) :
    ReturnsInHanded {} Try.checked os 13 .any (Rows.fnExactLeftOverSpec.pre6 enc Try.prog Try.f13 Rows.fnExactLeftOverRow.domain false) (Rows.fnExactLeftOverSpec.post enc Try.prog Try.f13 false true false false) := by
  refine returnsInHanded_of_change (C := Try.checked) own started (by kernel_rfl) Try.func13
    (ChangeSpec.witness6 (enc := enc) (C := Try.checked) false ⟨#[], #[.slice none 0 0, .int .i64 0], []⟩ 8 (by kernel_rfl) (by kernel_rfl) (by kernel_rfl) (by kernel_rfl)) ?_
  intro W base args ds gs before hval0 hW hcnd _
  have hval : ∀ (j : Nat) t v, Try.f13.params[j]? = some t → args[j]? = some v → Value.okWide Try.prog W .any base t v := hval0
  have hW' := hW
  obtain ⟨p, q, hA0, hV, rfl, hfz, hnd⟩ := hW
  have hA : DataW.TrodAll enc Try.prog W 0 (fun _ => true) true Try.f13.params.toList args.toList ds p := hA0
  rw [Try.params13] at hA hval
  obtain ⟨v0, v1, d0, d1, p0, p1, rfl, rfl, rfl, h0, h1⟩ := trodAll_two hA
  obtain ⟨rfl, rfl⟩ := trodVars_none hV
  obtain ⟨Al, nl, cl, xl, rfl, hnl, hxl⟩ := open_FlexS (hval 0 37 v0 rfl rfl) h0
  have lt0 : ∀ x ∈ p0, x.block < W.heap.size := by obtain ⟨k, hk⟩ := h0; exact DataW.trod_lt k _ _ _ hk
  obtain ⟨s, rfl, u1, t1, w1⟩ := open_int Try.underlying3 (hval 1 3 v1 rfl rfl) h1
  have lt1 : ∀ x ∈ p1, x.block < W.heap.size := by obtain ⟨k, hk⟩ := h1; exact DataW.trod_lt k _ _ _ hk
  clear hA0 hval0
  refine (lawExactLeftOver Al nl cl xl s (leftO nl xl s) (fun B m d W h hm => by have e : m = nl := by { have h1 := h.len; have h2 := hxl.len; omega }; subst e; exact LeftOver_any xl s B m d W h hm) (fun B m d W h hm => by have e : m = nl := by { have h1 := h.len; have h2 := hxl.len; omega }; subst e; exact SLeftOver_any xl s B m d W h hm) W hxl hnl).mono fun e W' ⟨he, hN⟩ => ?_
  subst he
  exact ⟨_, rfl, _, _, _, [], _, [], hW', trodAll_mk1 (shut_bool Try.underlying4 _), trodAll_mk2 (Below.trod fact_laid (by kernel_rfl) (of_decide_eq_true (by kernel_rfl)) h0 hN lt0) (Below.trod fact_laid (by kernel_rfl) (of_decide_eq_true (by kernel_rfl)) h1 hN lt1), rfl, Below.frame hN _, fun h => by cases h⟩

theorem fnExactLeftOver_facts : joinedFacts Try.prog 13 Try.f13 Rows.fnExactLeftOverSpec Rows.fnExactLeftOverRow = true := by
  unfold joinedFacts
  rw [fact_laid, fact_maps, fact_heard, fact_enter, fact_make, fact_final]
  kernel_rfl
theorem fnExactLeftOver_named : Try.prog.funcNamed Rows.fnExactLeftOverRow.func = some 13 := by kernel_rfl
theorem fnExactLeftOver_instance : Try.f13.isInstance Try.prog Rows.fnExactLeftOverRow.origin Rows.fnExactLeftOverRow.targs := of_decide_eq_true (by kernel_rfl)
theorem fnExactLeftOver_holds : Rows.FnExactLeftOverSaid :=
  OpenClaim.holds_of_wide 13 Try.f13 rfl rfl rfl rfl rfl rfl rfl ⟨rfl, rfl, rfl, rfl, rfl⟩ rfl rfl rfl rfl rfl fnExactLeftOver_named Try.func13 fnExactLeftOver_facts
    fnExactLeftOver_instance (by unfold Func.isWrapper; first | (rw [if_pos (by decide +kernel)]; kernel_rfl) | (rw [if_neg (by decide +kernel)]; exact ⟨rfl, rfl⟩))
    (fun os started H enc _ => fnExactLeftOver_lifted os started H enc)
#print axioms fnExactLeftOver_holds
end Go.Proofs.Ytplgfifbahhpcaa
