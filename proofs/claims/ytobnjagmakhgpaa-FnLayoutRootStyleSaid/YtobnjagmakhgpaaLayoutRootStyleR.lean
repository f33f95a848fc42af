/- The law FnLayoutRootStyle returns true for every code, and the code reads afterwards as before: its given statement, proved. No condition. -/
import Derived.Test.YtobnjagmakhgpaaLawLayoutRootStyle
import Derived.Test.YtobnjagmakhgpaaZY
import Derived.Test.YtobnjagmakhgpaaFacts
namespace Go.Proofs.Ytobnjagmakhgpaa
open Go.ChangeShapes Go.WideShapes Go.ChangeAt Go.RowKit

set_option maxRecDepth 100000 in
theorem fnLayoutRootStyle_lifted (os : Os) (started : os.Started) (H : Type) (enc : TypeId × Value → H) :
    ReturnsInHanded {} Try.checked os 7 .any (Rows.fnLayoutRootStyleSpec.pre6 enc Try.prog Try.f7 Rows.fnLayoutRootStyleRow.domain false) (Rows.fnLayoutRootStyleSpec.post enc Try.prog Try.f7 false true false false) := by
  refine returnsInHanded_of_change (C := Try.checked) own started (by kernel_rfl) Try.func7
    (ChangeSpec.witness6 (enc := enc) (C := Try.checked) false ⟨#[], #[.slice none 0 0], []⟩ 8 (by kernel_rfl) (by kernel_rfl) (by kernel_rfl) (by kernel_rfl)) ?_
  intro W base args ds gs before hval0 hW hcnd _
  have hval : ∀ (j : Nat) t v, Try.f7.params[j]? = some t → args[j]? = some v → Value.okWide Try.prog W .any base t v := hval0
  have hW' := hW
  obtain ⟨p, q, hA0, hV, rfl, hfz, hnd⟩ := hW
  have hA : DataW.TrodAll enc Try.prog W 0 (fun _ => true) true Try.f7.params.toList args.toList ds p := hA0
  rw [Try.params7] at hA hval
  obtain ⟨v0, d0, rfl, rfl, h0⟩ := trodAll_one hA
  obtain ⟨rfl, rfl⟩ := trodVars_none hV
  obtain ⟨A, n, c, rfl, hn, hnc, hB⟩ := open_code (hval 0 22 v0 rfl rfl) h0
  have lt0 : ∀ x ∈ p, x.block < W.heap.size := by obtain ⟨k, hk⟩ := h0; exact DataW.trod_lt k _ _ _ hk
  clear hA0 hval0
  refine (lawLayoutRootStyle A n c hn hnc W hB).mono fun e W' ⟨he, hN⟩ => ?_
  subst he
  exact ⟨_, rfl, _, _, _, [], _, [], hW', trodAll_mk1 (shut_bool Try.underlying4 _), trodAll_mk1 (Below.trod fact_laid (by kernel_rfl) (of_decide_eq_true (by kernel_rfl)) h0 hN lt0), rfl, Below.frame hN _, fun h => by cases h⟩

theorem fnLayoutRootStyle_facts : joinedFacts Try.prog 7 Try.f7 Rows.fnLayoutRootStyleSpec Rows.fnLayoutRootStyleRow = true := by
  unfold joinedFacts
  rw [fact_laid, fact_maps, fact_heard, fact_enter, fact_make, fact_final]
  kernel_rfl
theorem fnLayoutRootStyle_named : Try.prog.funcNamed Rows.fnLayoutRootStyleRow.func = some 7 := by kernel_rfl
theorem fnLayoutRootStyle_instance : Try.f7.isInstance Try.prog Rows.fnLayoutRootStyleRow.origin Rows.fnLayoutRootStyleRow.targs := of_decide_eq_true (by kernel_rfl)
theorem fnLayoutRootStyle_holds : Rows.FnLayoutRootStyleSaid :=
  OpenClaim.holds_of_wide 7 Try.f7 rfl rfl rfl rfl rfl rfl rfl ⟨rfl, rfl, rfl, rfl, rfl⟩ rfl rfl rfl rfl rfl fnLayoutRootStyle_named Try.func7 fnLayoutRootStyle_facts
    fnLayoutRootStyle_instance (by unfold Func.isWrapper; first | (rw [if_pos (by decide +kernel)]; kernel_rfl) | (rw [if_neg (by decide +kernel)]; exact ⟨rfl, rfl⟩))
    (fun os started H enc _ => fnLayoutRootStyle_lifted os started H enc)
#print axioms fnLayoutRootStyle_holds
end Go.Proofs.Ytobnjagmakhgpaa
