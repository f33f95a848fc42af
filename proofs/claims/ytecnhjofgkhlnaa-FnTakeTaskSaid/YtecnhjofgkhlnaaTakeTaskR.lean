/- The law FnTakeTask returns true for every code, and the code reads afterwards as before: its given statement, proved. No condition. -/
import Derived.Test.YtecnhjofgkhlnaaLawTakeTask
import Derived.Test.YtecnhjofgkhlnaaRowS
import Derived.Test.YtecnhjofgkhlnaaFacts
namespace Go.Proofs.Ytecnhjofgkhlnaa
open Go.ChangeShapes Go.WideShapes Go.ChangeAt Go.RowKit

set_option maxRecDepth 100000 in
theorem fnTakeTask_lifted (os : Os) (started : os.Started) (H : Type) (enc : TypeId × Value → H) :
    ReturnsInHanded {} Try.checked os 9 .any (Rows.fnTakeTaskSpec.pre6 enc Try.prog Try.f9 Rows.fnTakeTaskRow.domain false) (Rows.fnTakeTaskSpec.post enc Try.prog Try.f9 false true false false) := by
  refine returnsInHanded_of_change (C := Try.checked) own started (by kernel_rfl) Try.func9
    (ChangeSpec.witness6 (enc := enc) (C := Try.checked) false ⟨#[], #[.slice none 0 0], []⟩ 8 (by kernel_rfl) (by kernel_rfl) (by kernel_rfl) (by kernel_rfl)) ?_
  intro W base args ds gs before hval0 hW hcnd _
  have hval : ∀ (j : Nat) t v, Try.f9.params[j]? = some t → args[j]? = some v → Value.okWide Try.prog W .any base t v := hval0
  have hW' := hW
  obtain ⟨p, q, hA0, hV, rfl, hfz, hnd⟩ := hW
  have hA : DataW.TrodAll enc Try.prog W 0 (fun _ => true) true Try.f9.params.toList args.toList ds p := hA0
  rw [Try.params9] at hA hval
  obtain ⟨v0, d0, rfl, rfl, h0⟩ := trodAll_one hA
  obtain ⟨rfl, rfl⟩ := trodVars_none hV
  obtain ⟨A, n, c, rfl, hn, hnc, hB⟩ := open_code (hval 0 38 v0 rfl rfl) h0
  have lt0 : ∀ x ∈ p, x.block < W.heap.size := by obtain ⟨k, hk⟩ := h0; exact DataW.trod_lt k _ _ _ hk
  clear hA0 hval0
  refine (lawTakeTask A n c hn hnc W hB).mono fun e W' ⟨he, hN⟩ => ?_
  subst he
  exact ⟨_, rfl, _, _, _, [], _, [], hW', trodAll_mk1 (shut_bool Try.underlying4 _), trodAll_mk1 (Below.trod fact_laid (by kernel_rfl) (of_decide_eq_true (by kernel_rfl)) h0 hN lt0), rfl, Below.frame hN _, fun h => by cases h⟩

theorem fnTakeTask_facts : joinedFacts Try.prog 9 Try.f9 Rows.fnTakeTaskSpec Rows.fnTakeTaskRow = true := by
  unfold joinedFacts
  rw [fact_laid, fact_maps, fact_heard, fact_enter, fact_make, fact_final]
  kernel_rfl
theorem fnTakeTask_named : Try.prog.funcNamed Rows.fnTakeTaskRow.func = some 9 := by kernel_rfl
theorem fnTakeTask_instance : Try.f9.isInstance Try.prog Rows.fnTakeTaskRow.origin Rows.fnTakeTaskRow.targs := of_decide_eq_true (by kernel_rfl)
theorem fnTakeTask_holds : Rows.FnTakeTaskSaid :=
  OpenClaim.holds_of_wide 9 Try.f9 rfl rfl rfl rfl rfl rfl rfl ⟨rfl, rfl, rfl, rfl, rfl⟩ rfl rfl rfl rfl rfl fnTakeTask_named Try.func9 fnTakeTask_facts
    fnTakeTask_instance (by unfold Func.isWrapper; first | (rw [if_pos (by decide +kernel)]; kernel_rfl) | (rw [if_neg (by decide +kernel)]; exact ⟨rfl, rfl⟩))
    (fun os started H enc _ => fnTakeTask_lifted os started H enc)
#print axioms fnTakeTask_holds
end Go.Proofs.Ytecnhjofgkhlnaa
