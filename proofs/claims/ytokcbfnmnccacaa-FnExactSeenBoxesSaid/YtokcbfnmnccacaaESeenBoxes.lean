/- The law FnExactSeenBoxes returns true whatever the tree, the numbers and the rectangle, and its arguments read afterwards as before: its given statement, proved. No condition. -/
import Derived.Test.YtokcbfnmnccacaaLawESeenBoxes
import Derived.Test.YtokcbfnmnccacaaSeenB
import Derived.Test.YtokcbfnmnccacaaZY
import Derived.Test.YtokcbfnmnccacaaRow1Rect
import Derived.Test.YtokcbfnmnccacaaFacts
namespace Go.Proofs.Ytokcbfnmnccacaa
open Go.ChangeShapes Go.WideShapes Go.ChangeAt Go.RowKit

set_option maxRecDepth 100000 in
theorem fnExactSeenBoxes_lifted (os : Os) (started : os.Started) (H : Type) (enc : TypeId × Value → H) :
    ReturnsInHanded {} Try.checked os 4 .any (Rows.fnExactSeenBoxesSpec.pre6 enc Try.prog Try.f4 Rows.fnExactSeenBoxesRow.domain false) (Rows.fnExactSeenBoxesSpec.post enc Try.prog Try.f4 false true false false) := by
  refine returnsInHanded_of_change (C := Try.checked) own started (by kernel_rfl) Try.func4
    (ChangeSpec.witness6 (enc := enc) (C := Try.checked) false ⟨#[], #[.slice none 0 0, .int .i64 0, .int .i64 0, .agg #[.int .i64 0, .int .i64 0, .int .i64 0, .int .i64 0]], []⟩ 8 (by kernel_rfl) (by kernel_rfl) (by kernel_rfl) (by kernel_rfl)) ?_
  intro W base args ds gs before hval0 hW hcnd _
  have hval : ∀ (j : Nat) t v, Try.f4.params[j]? = some t → args[j]? = some v → Value.okWide Try.prog W .any base t v := hval0
  have hW' := hW
  obtain ⟨p, q, hA0, hV, rfl, hfz, hnd⟩ := hW
  have hA : DataW.TrodAll enc Try.prog W 0 (fun _ => true) true Try.f4.params.toList args.toList ds p := hA0
  rw [Try.params4] at hA hval
  obtain ⟨v0, v1, v2, v3, d0, d1, d2, d3, p0, p1, p2, p3, rfl, rfl, rfl, h0, h1, h2, h3⟩ := trodAll_four hA
  obtain ⟨rfl, rfl⟩ := trodVars_none hV
  obtain ⟨Al, nl, cl, xl, rfl, hnl, hxl⟩ := open_BoxS (hval 0 22 v0 rfl rfl) h0
  have lt0 : ∀ x ∈ p0, x.block < W.heap.size := by obtain ⟨k, hk⟩ := h0; exact DataW.trod_lt k _ _ _ hk
  obtain ⟨a, rfl, u1, t1, w1⟩ := open_int Try.underlying3 (hval 1 3 v1 rfl rfl) h1
  have lt1 : ∀ x ∈ p1, x.block < W.heap.size := by obtain ⟨k, hk⟩ := h1; exact DataW.trod_lt k _ _ _ hk
  obtain ⟨b, rfl, u2, t2, w2⟩ := open_int Try.underlying3 (hval 2 3 v2 rfl rfl) h2
  have lt2 : ∀ x ∈ p2, x.block < W.heap.size := by obtain ⟨k, hk⟩ := h2; exact DataW.trod_lt k _ _ _ hk
  obtain ⟨yv0, yv1, yv2, yv3, rfl⟩ := open_Rect1 (hval 3 34 v3 rfl rfl) h3
  have lt3 : ∀ x ∈ p3, x.block < W.heap.size := by obtain ⟨k, hk⟩ := h3; exact DataW.trod_lt k _ _ _ hk
  clear hA0 hval0
  refine (lawExactSeenBoxes Al nl cl xl a b yv0 yv1 yv2 yv3 (sbA nl xl a b yv0 yv1 yv2 yv3) (by have := sbA_len (n := nl) (zs := xl) (W := a) (H := b) (v0 := yv0) (v1 := yv1) (v2 := yv2) (v3 := yv3); omega) (fun B m d W h hm => by have e : m = nl := by { have h1 := h.len; have h2 := hxl.len; omega }; subst e; exact SeenBoxes_ans B m d xl a b yv0 yv1 yv2 yv3 hm W h) (fun B m d W h hm => by have e : m = nl := by { have h1 := h.len; have h2 := hxl.len; omega }; subst e; exact SSeenBoxes_ans B m d xl a b yv0 yv1 yv2 yv3 hm W h) W hxl hnl).mono fun e W' ⟨he, hN⟩ => ?_
  subst he
  exact ⟨_, rfl, _, _, _, [], _, [], hW', trodAll_mk1 (shut_bool Try.underlying4 _), trodAll_mk4 (Below.trod fact_laid (by kernel_rfl) (of_decide_eq_true (by kernel_rfl)) h0 hN lt0) (Below.trod fact_laid (by kernel_rfl) (of_decide_eq_true (by kernel_rfl)) h1 hN lt1) (Below.trod fact_laid (by kernel_rfl) (of_decide_eq_true (by kernel_rfl)) h2 hN lt2) (Below.trod fact_laid (by kernel_rfl) (of_decide_eq_true (by kernel_rfl)) h3 hN lt3), rfl, Below.frame hN _, fun h => by cases h⟩

theorem fnExactSeenBoxes_facts : joinedFacts Try.prog 4 Try.f4 Rows.fnExactSeenBoxesSpec Rows.fnExactSeenBoxesRow = true := by
  unfold joinedFacts
  rw [fact_laid, fact_maps, fact_heard, fact_enter, fact_make, fact_final]
  kernel_rfl
theorem fnExactSeenBoxes_named : Try.prog.funcNamed Rows.fnExactSeenBoxesRow.func = some 4 := by kernel_rfl
theorem fnExactSeenBoxes_instance : Try.f4.isInstance Try.prog Rows.fnExactSeenBoxesRow.origin Rows.fnExactSeenBoxesRow.targs := of_decide_eq_true (by kernel_rfl)
theorem fnExactSeenBoxes_holds : Rows.FnExactSeenBoxesSaid :=
  OpenClaim.holds_of_wide 4 Try.f4 rfl rfl rfl rfl rfl rfl rfl ⟨rfl, rfl, rfl, rfl, rfl⟩ rfl rfl rfl rfl rfl fnExactSeenBoxes_named Try.func4 fnExactSeenBoxes_facts
    fnExactSeenBoxes_instance (by unfold Func.isWrapper; first | (rw [if_pos (by decide +kernel)]; kernel_rfl) | (rw [if_neg (by decide +kernel)]; exact ⟨rfl, rfl⟩))
    (fun os started H enc _ => fnExactSeenBoxes_lifted os started H enc)
#print axioms fnExactSeenBoxes_holds
end Go.Proofs.Ytokcbfnmnccacaa
