/- The law FnSpanOfAll returns true for every code, and the code reads afterwards as before: its given statement, proved. No condition. -/
import Derived.Test.YtcoddhlfhmelkaaLawSpanOfAll
import Derived.Test.YtcoddhlfhmelkaaRowS
import Derived.Test.YtcoddhlfhmelkaaFacts
namespace Go.Proofs.Ytcoddhlfhmelkaa
open Go.ChangeShapes Go.WideShapes Go.ChangeAt Go.RowKit

set_option maxRecDepth 100000 in
theorem fnSpanOfAll_lifted (os : Os) (started : os.Started) (H : Type) (enc : TypeId × Value → H) :
    ReturnsInHanded {} Try.checked os 13 .any (Rows.fnSpanOfAllSpec.pre6 enc Try.prog Try.f13 Rows.fnSpanOfAllRow.domain false) (Rows.fnSpanOfAllSpec.post enc Try.prog Try.f13 false true false false) := by
  refine returnsInHanded_of_change (C := Try.checked) own started (by kernel_rfl) Try.func13
    (ChangeSpec.witness6 (enc := enc) (C := Try.checked) false ⟨#[], #[.slice none 0 0], []⟩ 8 (by kernel_rfl) (by kernel_rfl) (by kernel_rfl) (by kernel_rfl)) ?_
  intro W base args ds gs before hval0 hW hcnd _
  have hval : ∀ (j : Nat) t v, Try.f13.params[j]? = some t → args[j]? = some v → Value.okWide Try.prog W .any base t v := hval0
  have hW' := hW
  obtain ⟨p, q, hA0, hV, rfl, hfz, hnd⟩ := hW
  have hA : DataW.TrodAll enc Try.prog W 0 (fun _ => true) true Try.f13.params.toList args.toList ds p := hA0
  rw [Try.params13] at hA hval
  obtain ⟨v0, d0, rfl, rfl, h0⟩ := trodAll_one hA
  obtain ⟨rfl, rfl⟩ := trodVars_none hV
  obtain ⟨A, n, c, rfl, hn, hnc, hB⟩ := open_code (hval 0 22 v0 rfl rfl) h0
  have lt0 : ∀ x ∈ p, x.block < W.heap.size := by obtain ⟨k, hk⟩ := h0; exact DataW.trod_lt k _ _ _ hk
  clear hA0 hval0
  refine (lawSpanOfAll A n c hn hnc W hB).mono fun e W' ⟨he, hN⟩ => ?_
  subst he
  exact ⟨_, rfl, _, _, _, [], _, [], hW', trodAll_mk1 (shut_bool Try.underlying4 _), trodAll_mk1 (Below.trod fact_laid (by kernel_rfl) (of_decide_eq_true (by kernel_rfl)) h0 hN lt0), rfl, Below.frame hN _, fun h => by cases h⟩

theorem fnSpanOfAll_facts : joinedFacts Try.prog 13 Try.f13 Rows.fnSpanOfAllSpec Rows.fnSpanOfAllRow = true := by
  unfold joinedFacts
  rw [fact_laid, fact_maps, fact_heard, fact_enter, fact_make, fact_final]
  kernel_rfl
theorem fnSpanOfAll_named : Try.prog.funcNamed Rows.fnSpanOfAllRow.func = some 13 := by kernel_rfl
theorem fnSpanOfAll_instance : Try.f13.isInstance Try.prog Rows.fnSpanOfAllRow.origin Rows.fnSpanOfAllRow.targs := of_decide_eq_true (by kernel_rfl)
theorem fnSpanOfAll_holds : Rows.FnSpanOfAllSaid :=
  OpenClaim.holds_of_wide 13 Try.f13 rfl rfl rfl rfl rfl rfl rfl ⟨rfl, rfl, rfl, rfl, rfl⟩ rfl rfl rfl rfl rfl fnSpanOfAll_named Try.func13 fnSpanOfAll_facts
    fnSpanOfAll_instance (by unfold Func.isWrapper; first | (rw [if_pos (by decide +kernel)]; kernel_rfl) | (rw [if_neg (by decide +kernel)]; exact ⟨rfl, rfl⟩))
    (fun os started H enc _ => fnSpanOfAll_lifted os started H enc)
#print axioms fnSpanOfAll_holds
end Go.Proofs.Ytcoddhlfhmelkaa
