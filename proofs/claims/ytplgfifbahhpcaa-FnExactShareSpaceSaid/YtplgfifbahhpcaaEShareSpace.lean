/- The law FnExactShareSpace returns true whatever the space and the weights, and its arguments read afterwards as before: its given statement, proved. No condition. -/
import Derived.Test.YtplgfifbahhpcaaLawEShareSpace
import Derived.Test.YtplgfifbahhpcaaShareZ
import Derived.Test.YtplgfifbahhpcaaRowS
import Derived.Test.YtplgfifbahhpcaaFacts
namespace Go.Proofs.Ytplgfifbahhpcaa
open Go.ChangeShapes Go.WideShapes Go.ChangeAt Go.RowKit

set_option maxRecDepth 100000 in
theorem fnExactShareSpace_lifted (os : Os) (started : os.Started) (H : Type) (enc : TypeId × Value → H) :
    ReturnsInHanded {} Try.checked os 7 .any (Rows.fnExactShareSpaceSpec.pre6 enc Try.prog Try.f7 Rows.fnExactShareSpaceRow.domain false) (Rows.fnExactShareSpaceSpec.post enc Try.prog Try.f7 false true false false) := by
  refine returnsInHanded_of_change (C := Try.checked) own started (by kernel_rfl) Try.func7
    (ChangeSpec.witness6 (enc := enc) (C := Try.checked) false ⟨#[], #[.int .i64 0, .slice none 0 0], []⟩ 8 (by kernel_rfl) (by kernel_rfl) (by kernel_rfl) (by kernel_rfl)) ?_
  intro W base args ds gs before hval0 hW hcnd _
  have hval : ∀ (j : Nat) t v, Try.f7.params[j]? = some t → args[j]? = some v → Value.okWide Try.prog W .any base t v := hval0
  have hW' := hW
  obtain ⟨p, q, hA0, hV, rfl, hfz, hnd⟩ := hW
  have hA : DataW.TrodAll enc Try.prog W 0 (fun _ => true) true Try.f7.params.toList args.toList ds p := hA0
  rw [Try.params7] at hA hval
  obtain ⟨v0, v1, d0, d1, p0, p1, rfl, rfl, rfl, h0, h1⟩ := trodAll_two hA
  obtain ⟨rfl, rfl⟩ := trodVars_none hV
  obtain ⟨a, rfl, u0, t0, w0⟩ := open_int Try.underlying3 (hval 0 3 v0 rfl rfl) h0
  have lt0 : ∀ x ∈ p0, x.block < W.heap.size := by obtain ⟨k, hk⟩ := h0; exact DataW.trod_lt k _ _ _ hk
  obtain ⟨Aws, nws, cws, xws, rfl, hnws, _, hxws⟩ := open_nums (hval 1 23 v1 rfl rfl) h1
  have lt1 : ∀ x ∈ p1, x.block < W.heap.size := by obtain ⟨k, hk⟩ := h1; exact DataW.trod_lt k _ _ _ hk
  clear hA0 hval0
  refine (shareSpace_exact a Aws nws cws xws hnws W hxws).mono fun e W' ⟨he, hN⟩ => ?_
  subst he
  exact ⟨_, rfl, _, _, _, [], _, [], hW', trodAll_mk1 (shut_bool Try.underlying4 _), trodAll_mk2 (Below.trod fact_laid (by kernel_rfl) (of_decide_eq_true (by kernel_rfl)) h0 hN lt0) (Below.trod fact_laid (by kernel_rfl) (of_decide_eq_true (by kernel_rfl)) h1 hN lt1), rfl, Below.frame hN _, fun h => by cases h⟩

theorem fnExactShareSpace_facts : joinedFacts Try.prog 7 Try.f7 Rows.fnExactShareSpaceSpec Rows.fnExactShareSpaceRow = true := by
  unfold joinedFacts
  rw [fact_laid, fact_maps, fact_heard, fact_enter, fact_make, fact_final]
  kernel_rfl
theorem fnExactShareSpace_named : Try.prog.funcNamed Rows.fnExactShareSpaceRow.func = some 7 := by kernel_rfl
theorem fnExactShareSpace_instance : Try.f7.isInstance Try.prog Rows.fnExactShareSpaceRow.origin Rows.fnExactShareSpaceRow.targs := of_decide_eq_true (by kernel_rfl)
theorem fnExactShareSpace_holds : Rows.FnExactShareSpaceSaid :=
  OpenClaim.holds_of_wide 7 Try.f7 rfl rfl rfl rfl rfl rfl rfl ⟨rfl, rfl, rfl, rfl, rfl⟩ rfl rfl rfl rfl rfl fnExactShareSpace_named Try.func7 fnExactShareSpace_facts
    fnExactShareSpace_instance (by unfold Func.isWrapper; first | (rw [if_pos (by decide +kernel)]; kernel_rfl) | (rw [if_neg (by decide +kernel)]; exact ⟨rfl, rfl⟩))
    (fun os started H enc _ => fnExactShareSpace_lifted os started H enc)
#print axioms fnExactShareSpace_holds
end Go.Proofs.Ytplgfifbahhpcaa
