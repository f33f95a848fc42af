/- The law FnPushTaskOrder returns true for every code, and the code reads afterwards as before: its given statement, proved. No condition. -/
import Derived.Test.YtecnhjofgkhlnaaLawPushTaskOrder
import Derived.Test.YtecnhjofgkhlnaaRowS
import Derived.Test.YtecnhjofgkhlnaaFacts
namespace Go.Proofs.Ytecnhjofgkhlnaa
open Go.ChangeShapes Go.WideShapes Go.ChangeAt Go.RowKit

set_option maxRecDepth 100000 in
theorem fnPushTaskOrder_lifted (os : Os) (started : os.Started) (H : Type) (enc : TypeId × Value → H) :
    ReturnsInHanded {} Try.checked os 14 .any (Rows.fnPushTaskOrderSpec.pre6 enc Try.prog Try.f14 Rows.fnPushTaskOrderRow.domain false) (Rows.fnPushTaskOrderSpec.post enc Try.prog Try.f14 false true false false) := by
  refine returnsInHanded_of_change (C := Try.checked) own started (by kernel_rfl) Try.func14
    (ChangeSpec.witness6 (enc := enc) (C := Try.checked) false ⟨#[], #[.slice none 0 0], []⟩ 8 (by kernel_rfl) (by kernel_rfl) (by kernel_rfl) (by kernel_rfl)) ?_
  intro W base args ds gs before hval0 hW hcnd _
  have hval : ∀ (j : Nat) t v, Try.f14.params[j]? = some t → args[j]? = some v → Value.okWide Try.prog W .any base t v := hval0
  have hW' := hW
  obtain ⟨p, q, hA0, hV, rfl, hfz, hnd⟩ := hW
  have hA : DataW.TrodAll enc Try.prog W 0 (fun _ => true) true Try.f14.params.toList args.toList ds p := hA0
  rw [Try.params14] at hA hval
  obtain ⟨v0, d0, rfl, rfl, h0⟩ := trodAll_one hA
  obtain ⟨rfl, rfl⟩ := trodVars_none hV
  obtain ⟨A, n, c, rfl, hn, hnc, hB⟩ := open_code (hval 0 38 v0 rfl rfl) h0
  have lt0 : ∀ x ∈ p, x.block < W.heap.size := by obtain ⟨k, hk⟩ := h0; exact DataW.trod_lt k _ _ _ hk
  clear hA0 hval0
  refine (lawPushTaskOrder A n c hn hnc W hB).mono fun e W' ⟨he, hN⟩ => ?_
  subst he
  exact ⟨_, rfl, _, _, _, [], _, [], hW', trodAll_mk1 (shut_bool Try.underlying4 _), trodAll_mk1 (Below.trod fact_laid (by kernel_rfl) (of_decide_eq_true (by kernel_rfl)) h0 hN lt0), rfl, Below.frame hN _, fun h => by cases h⟩

theorem fnPushTaskOrder_facts : joinedFacts Try.prog 14 Try.f14 Rows.fnPushTaskOrderSpec Rows.fnPushTaskOrderRow = true := by
  unfold joinedFacts
  rw [fact_laid, fact_maps, fact_heard, fact_enter, fact_make, fact_final]
  kernel_rfl
theorem fnPushTaskOrder_named : Try.prog.funcNamed Rows.fnPushTaskOrderRow.func = some 14 := by kernel_rfl
theorem fnPushTaskOrder_instance : Try.f14.isInstance Try.prog Rows.fnPushTaskOrderRow.origin Rows.fnPushTaskOrderRow.targs := of_decide_eq_true (by kernel_rfl)
theorem fnPushTaskOrder_holds : Rows.FnPushTaskOrderSaid :=
  OpenClaim.holds_of_wide 14 Try.f14 rfl rfl rfl rfl rfl rfl rfl ⟨rfl, rfl, rfl, rfl, rfl⟩ rfl rfl rfl rfl rfl fnPushTaskOrder_named Try.func14 fnPushTaskOrder_facts
    fnPushTaskOrder_instance (by unfold Func.isWrapper; first | (rw [if_pos (by decide +kernel)]; kernel_rfl) | (rw [if_neg (by decide +kernel)]; exact ⟨rfl, rfl⟩))
    (fun os started H enc _ => fnPushTaskOrder_lifted os started H enc)
#print axioms fnPushTaskOrder_holds
end Go.Proofs.Ytecnhjofgkhlnaa
