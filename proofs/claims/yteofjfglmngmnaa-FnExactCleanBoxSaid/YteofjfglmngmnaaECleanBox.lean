/- The law FnExactCleanBox returns true whatever the tree, the marks and the number, and its arguments read afterwards as before: its given statement, proved. No condition. -/
import Derived.Test.YteofjfglmngmnaaLawECleanBox
import Derived.Test.YteofjfglmngmnaaCleanZ
import Derived.Test.YteofjfglmngmnaaRowBox
import Derived.Test.YteofjfglmngmnaaRowS
import Derived.Test.YteofjfglmngmnaaFacts
namespace Go.Proofs.Yteofjfglmngmnaa
open Go.ChangeShapes Go.WideShapes Go.ChangeAt Go.RowKit

set_option maxRecDepth 100000 in
theorem fnExactCleanBox_lifted (os : Os) (started : os.Started) (H : Type) (enc : TypeId × Value → H) :
    ReturnsInHanded {} Try.checked os 8 .any (Rows.fnExactCleanBoxSpec.pre6 enc Try.prog Try.f8 Rows.fnExactCleanBoxRow.domain false) (Rows.fnExactCleanBoxSpec.post enc Try.prog Try.f8 false true false false) := by
  refine returnsInHanded_of_change (C := Try.checked) own started (by kernel_rfl) Try.func8
    (ChangeSpec.witness6 (enc := enc) (C := Try.checked) false ⟨#[], #[.slice none 0 0, .slice none 0 0, .int .i64 0], []⟩ 8 (by kernel_rfl) (by kernel_rfl) (by kernel_rfl) (by kernel_rfl)) ?_
  intro W base args ds gs before hval0 hW hcnd _
  have hval : ∀ (j : Nat) t v, Try.f8.params[j]? = some t → args[j]? = some v → Value.okWide Try.prog W .any base t v := hval0
  have hW' := hW
  obtain ⟨p, q, hA0, hV, rfl, hfz, hnd⟩ := hW
  have hA : DataW.TrodAll enc Try.prog W 0 (fun _ => true) true Try.f8.params.toList args.toList ds p := hA0
  rw [Try.params8] at hA hval
  obtain ⟨v0, v1, v2, d0, d1, d2, p0, p1, p2, rfl, rfl, rfl, h0, h1, h2⟩ := trodAll_three hA
  obtain ⟨rfl, rfl⟩ := trodVars_none hV
  obtain ⟨Al, nl, cl, xl, rfl, hnl, hxl⟩ := open_BoxS (hval 0 31 v0 rfl rfl) h0
  have lt0 : ∀ x ∈ p0, x.block < W.heap.size := by obtain ⟨k, hk⟩ := h0; exact DataW.trod_lt k _ _ _ hk
  obtain ⟨Ams, nms, cms, xms, rfl, hnms, _, hxms⟩ := open_nums (hval 1 23 v1 rfl rfl) h1
  have lt1 : ∀ x ∈ p1, x.block < W.heap.size := by obtain ⟨k, hk⟩ := h1; exact DataW.trod_lt k _ _ _ hk
  obtain ⟨a, rfl, u2, t2, w2⟩ := open_int Try.underlying3 (hval 2 3 v2 rfl rfl) h2
  have lt2 : ∀ x ∈ p2, x.block < W.heap.size := by obtain ⟨k, hk⟩ := h2; exact DataW.trod_lt k _ _ _ hk
  clear hA0 hval0
  refine (lawExactCleanBox Al nl cl xl Ams nms cms xms a (cleanOk nl xl xms a) (cleanA nl xl xms a) (by have := cleanA_len (n := nl) (zs := xl) (ms := xms) (at_ := a); omega) (fun B m d B' m' d' W h h' hm hm' => by have e : m = nl := by { have h1 := h.len; have h2 := hxl.len; omega }; subst e; exact CleanBox_ansI B B' m d m' d' xl xms a hm hm' W h h') (fun B m d B' m' d' W h h' hm hm' => by have e : m = nl := by { have h1 := h.len; have h2 := hxl.len; omega }; subst e; exact SCleanBox_ansI B B' m d m' d' xl xms a hm hm' W h h') W hxl hnl hxms hnms).mono fun e W' ⟨he, hN⟩ => ?_
  subst he
  exact ⟨_, rfl, _, _, _, [], _, [], hW', trodAll_mk1 (shut_bool Try.underlying4 _), trodAll_mk3 (Below.trod fact_laid (by kernel_rfl) (of_decide_eq_true (by kernel_rfl)) h0 hN lt0) (Below.trod fact_laid (by kernel_rfl) (of_decide_eq_true (by kernel_rfl)) h1 hN lt1) (Below.trod fact_laid (by kernel_rfl) (of_decide_eq_true (by kernel_rfl)) h2 hN lt2), rfl, Below.frame hN _, fun h => by cases h⟩

theorem fnExactCleanBox_facts : joinedFacts Try.prog 8 Try.f8 Rows.fnExactCleanBoxSpec Rows.fnExactCleanBoxRow = true := by
  unfold joinedFacts
  rw [fact_laid, fact_maps, fact_heard, fact_enter, fact_make, fact_final]
  kernel_rfl
theorem fnExactCleanBox_named : Try.prog.funcNamed Rows.fnExactCleanBoxRow.func = some 8 := by kernel_rfl
theorem fnExactCleanBox_instance : Try.f8.isInstance Try.prog Rows.fnExactCleanBoxRow.origin Rows.fnExactCleanBoxRow.targs := of_decide_eq_true (by kernel_rfl)
theorem fnExactCleanBox_holds : Rows.FnExactCleanBoxSaid :=
  OpenClaim.holds_of_wide 8 Try.f8 rfl rfl rfl rfl rfl rfl rfl ⟨rfl, rfl, rfl, rfl, rfl⟩ rfl rfl rfl rfl rfl fnExactCleanBox_named Try.func8 fnExactCleanBox_facts
    fnExactCleanBox_instance (by unfold Func.isWrapper; first | (rw [if_pos (by decide +kernel)]; kernel_rfl) | (rw [if_neg (by decide +kernel)]; exact ⟨rfl, rfl⟩))
    (fun os started H enc _ => fnExactCleanBox_lifted os started H enc)
#print axioms fnExactCleanBox_holds
end Go.Proofs.Yteofjfglmngmnaa
