/- The law FnExactDirtyRoots returns true whatever the tree and the marks, and its arguments read afterwards as before: its given statement, proved. No condition. -/
import Derived.Test.YteofjfglmngmnaaLawEDirtyRoots
import Derived.Test.YteofjfglmngmnaaDirtyZ
import Derived.Test.YteofjfglmngmnaaRowBox
import Derived.Test.YteofjfglmngmnaaRowS
import Derived.Test.YteofjfglmngmnaaFacts
namespace Go.Proofs.Yteofjfglmngmnaa
open Go.ChangeShapes Go.WideShapes Go.ChangeAt Go.RowKit

set_option maxRecDepth 100000 in
theorem fnExactDirtyRoots_lifted (os : Os) (started : os.Started) (H : Type) (enc : TypeId × Value → H) :
    ReturnsInHanded {} Try.checked os 6 .any (Rows.fnExactDirtyRootsSpec.pre6 enc Try.prog Try.f6 Rows.fnExactDirtyRootsRow.domain false) (Rows.fnExactDirtyRootsSpec.post enc Try.prog Try.f6 false true false false) := by
  refine returnsInHanded_of_change (C := Try.checked) own started (by kernel_rfl) Try.func6
    (ChangeSpec.witness6 (enc := enc) (C := Try.checked) false ⟨#[], #[.slice none 0 0, .slice none 0 0], []⟩ 8 (by kernel_rfl) (by kernel_rfl) (by kernel_rfl) (by kernel_rfl)) ?_
  intro W base args ds gs before hval0 hW hcnd _
  have hval : ∀ (j : Nat) t v, Try.f6.params[j]? = some t → args[j]? = some v → Value.okWide Try.prog W .any base t v := hval0
  have hW' := hW
  obtain ⟨p, q, hA0, hV, rfl, hfz, hnd⟩ := hW
  have hA : DataW.TrodAll enc Try.prog W 0 (fun _ => true) true Try.f6.params.toList args.toList ds p := hA0
  rw [Try.params6] at hA hval
  obtain ⟨v0, v1, d0, d1, p0, p1, rfl, rfl, rfl, h0, h1⟩ := trodAll_two hA
  obtain ⟨rfl, rfl⟩ := trodVars_none hV
  obtain ⟨Al, nl, cl, xl, rfl, hnl, hxl⟩ := open_BoxS (hval 0 31 v0 rfl rfl) h0
  have lt0 : ∀ x ∈ p0, x.block < W.heap.size := by obtain ⟨k, hk⟩ := h0; exact DataW.trod_lt k _ _ _ hk
  obtain ⟨Ams, nms, cms, xms, rfl, hnms, _, hxms⟩ := open_nums (hval 1 23 v1 rfl rfl) h1
  have lt1 : ∀ x ∈ p1, x.block < W.heap.size := by obtain ⟨k, hk⟩ := h1; exact DataW.trod_lt k _ _ _ hk
  clear hA0 hval0
  refine (lawExactDirtyRoots Al nl cl xl Ams nms cms xms (drA nl xl xms) (by have := drA_len (n := nl) (zs := xl) (ms := xms); omega) (fun B m d B' m' d' W h h' hm hm' => by have e : m = nl := by { have h1 := h.len; have h2 := hxl.len; omega }; subst e; exact DirtyRoots_ans B B' m d m' d' xl xms hm hm' W h h') (fun B m d B' m' d' W h h' hm hm' => by have e : m = nl := by { have h1 := h.len; have h2 := hxl.len; omega }; subst e; exact SDirtyRoots_ans B B' m d m' d' xl xms hm hm' W h h') W hxl hnl hxms hnms).mono fun e W' ⟨he, hN⟩ => ?_
  subst he
  exact ⟨_, rfl, _, _, _, [], _, [], hW', trodAll_mk1 (shut_bool Try.underlying4 _), trodAll_mk2 (Below.trod fact_laid (by kernel_rfl) (of_decide_eq_true (by kernel_rfl)) h0 hN lt0) (Below.trod fact_laid (by kernel_rfl) (of_decide_eq_true (by kernel_rfl)) h1 hN lt1), rfl, Below.frame hN _, fun h => by cases h⟩

theorem fnExactDirtyRoots_facts : joinedFacts Try.prog 6 Try.f6 Rows.fnExactDirtyRootsSpec Rows.fnExactDirtyRootsRow = true := by
  unfold joinedFacts
  rw [fact_laid, fact_maps, fact_heard, fact_enter, fact_make, fact_final]
  kernel_rfl
theorem fnExactDirtyRoots_named : Try.prog.funcNamed Rows.fnExactDirtyRootsRow.func = some 6 := by kernel_rfl
theorem fnExactDirtyRoots_instance : Try.f6.isInstance Try.prog Rows.fnExactDirtyRootsRow.origin Rows.fnExactDirtyRootsRow.targs := of_decide_eq_true (by kernel_rfl)
theorem fnExactDirtyRoots_holds : Rows.FnExactDirtyRootsSaid :=
  OpenClaim.holds_of_wide 6 Try.f6 rfl rfl rfl rfl rfl rfl rfl ⟨rfl, rfl, rfl, rfl, rfl⟩ rfl rfl rfl rfl rfl fnExactDirtyRoots_named Try.func6 fnExactDirtyRoots_facts
    fnExactDirtyRoots_instance (by unfold Func.isWrapper; first | (rw [if_pos (by decide +kernel)]; kernel_rfl) | (rw [if_neg (by decide +kernel)]; exact ⟨rfl, rfl⟩))
    (fun os started H enc _ => fnExactDirtyRoots_lifted os started H enc)
#print axioms fnExactDirtyRoots_holds
end Go.Proofs.Yteofjfglmngmnaa
