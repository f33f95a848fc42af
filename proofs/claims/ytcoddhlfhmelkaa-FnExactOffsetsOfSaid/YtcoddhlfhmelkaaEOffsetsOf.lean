/- The law FnExactOffsetsOf returns true whatever the sizes and the numbers, and its arguments read afterwards as before: its given statement, proved. No condition. -/
import Derived.Test.YtcoddhlfhmelkaaLawEOffsetsOf
import Derived.Test.YtcoddhlfhmelkaaOffsZ
import Derived.Test.YtcoddhlfhmelkaaRowS
import Derived.Test.YtcoddhlfhmelkaaFacts
namespace Go.Proofs.Ytcoddhlfhmelkaa
open Go.ChangeShapes Go.WideShapes Go.ChangeAt Go.RowKit

set_option maxRecDepth 100000 in
theorem fnExactOffsetsOf_lifted (os : Os) (started : os.Started) (H : Type) (enc : TypeId × Value → H) :
    ReturnsInHanded {} Try.checked os 7 .any (Rows.fnExactOffsetsOfSpec.pre6 enc Try.prog Try.f7 Rows.fnExactOffsetsOfRow.domain false) (Rows.fnExactOffsetsOfSpec.post enc Try.prog Try.f7 false true false false) := by
  refine returnsInHanded_of_change (C := Try.checked) own started (by kernel_rfl) Try.func7
    (ChangeSpec.witness6 (enc := enc) (C := Try.checked) false ⟨#[], #[.slice none 0 0, .int .i64 0, .int .i64 0, .int .i64 0], []⟩ 8 (by kernel_rfl) (by kernel_rfl) (by kernel_rfl) (by kernel_rfl)) ?_
  intro W base args ds gs before hval0 hW hcnd _
  have hval : ∀ (j : Nat) t v, Try.f7.params[j]? = some t → args[j]? = some v → Value.okWide Try.prog W .any base t v := hval0
  have hW' := hW
  obtain ⟨p, q, hA0, hV, rfl, hfz, hnd⟩ := hW
  have hA : DataW.TrodAll enc Try.prog W 0 (fun _ => true) true Try.f7.params.toList args.toList ds p := hA0
  rw [Try.params7] at hA hval
  obtain ⟨v0, v1, v2, v3, d0, d1, d2, d3, p0, p1, p2, p3, rfl, rfl, rfl, h0, h1, h2, h3⟩ := trodAll_four hA
  obtain ⟨rfl, rfl⟩ := trodVars_none hV
  obtain ⟨As, ns, cs, xs, rfl, hns, _, hxs⟩ := open_nums (hval 0 23 v0 rfl rfl) h0
  have lt0 : ∀ x ∈ p0, x.block < W.heap.size := by obtain ⟨k, hk⟩ := h0; exact DataW.trod_lt k _ _ _ hk
  obtain ⟨space, rfl, u1, t1, w1⟩ := open_int Try.underlying3 (hval 1 3 v1 rfl rfl) h1
  have lt1 : ∀ x ∈ p1, x.block < W.heap.size := by obtain ⟨k, hk⟩ := h1; exact DataW.trod_lt k _ _ _ hk
  obtain ⟨gap, rfl, u2, t2, w2⟩ := open_int Try.underlying3 (hval 2 3 v2 rfl rfl) h2
  have lt2 : ∀ x ∈ p2, x.block < W.heap.size := by obtain ⟨k, hk⟩ := h2; exact DataW.trod_lt k _ _ _ hk
  obtain ⟨j, rfl, u3, t3, w3⟩ := open_int Try.underlying3 (hval 3 3 v3 rfl rfl) h3
  have lt3 : ∀ x ∈ p3, x.block < W.heap.size := by obtain ⟨k, hk⟩ := h3; exact DataW.trod_lt k _ _ _ hk
  clear hA0 hval0
  refine (lawExactOffsetsOf As ns cs xs space gap j (offsA xs space gap j) (offsA_len xs space gap j) (fun B m d W => OffsetsOf_ans xs space gap j B m d W) (fun B m d W => SOffsetsOf_ans xs space gap j B m d W) W hxs hns).mono fun e W' ⟨he, hN⟩ => ?_
  subst he
  exact ⟨_, rfl, _, _, _, [], _, [], hW', trodAll_mk1 (shut_bool Try.underlying4 _), trodAll_mk4 (Below.trod fact_laid (by kernel_rfl) (of_decide_eq_true (by kernel_rfl)) h0 hN lt0) (Below.trod fact_laid (by kernel_rfl) (of_decide_eq_true (by kernel_rfl)) h1 hN lt1) (Below.trod fact_laid (by kernel_rfl) (of_decide_eq_true (by kernel_rfl)) h2 hN lt2) (Below.trod fact_laid (by kernel_rfl) (of_decide_eq_true (by kernel_rfl)) h3 hN lt3), rfl, Below.frame hN _, fun h => by cases h⟩

theorem fnExactOffsetsOf_facts : joinedFacts Try.prog 7 Try.f7 Rows.fnExactOffsetsOfSpec Rows.fnExactOffsetsOfRow = true := by
  unfold joinedFacts
  rw [fact_laid, fact_maps, fact_heard, fact_enter, fact_make, fact_final]
  kernel_rfl
theorem fnExactOffsetsOf_named : Try.prog.funcNamed Rows.fnExactOffsetsOfRow.func = some 7 := by kernel_rfl
theorem fnExactOffsetsOf_instance : Try.f7.isInstance Try.prog Rows.fnExactOffsetsOfRow.origin Rows.fnExactOffsetsOfRow.targs := of_decide_eq_true (by kernel_rfl)
theorem fnExactOffsetsOf_holds : Rows.FnExactOffsetsOfSaid :=
  OpenClaim.holds_of_wide 7 Try.f7 rfl rfl rfl rfl rfl rfl rfl ⟨rfl, rfl, rfl, rfl, rfl⟩ rfl rfl rfl rfl rfl fnExactOffsetsOf_named Try.func7 fnExactOffsetsOf_facts
    fnExactOffsetsOf_instance (by unfold Func.isWrapper; first | (rw [if_pos (by decide +kernel)]; kernel_rfl) | (rw [if_neg (by decide +kernel)]; exact ⟨rfl, rfl⟩))
    (fun os started H enc _ => fnExactOffsetsOf_lifted os started H enc)
#print axioms fnExactOffsetsOf_holds
end Go.Proofs.Ytcoddhlfhmelkaa
