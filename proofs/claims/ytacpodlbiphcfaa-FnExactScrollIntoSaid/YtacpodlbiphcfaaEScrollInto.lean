/- The law FnExactScrollInto returns true whatever the numbers, and its arguments read afterwards as before: its given statement, proved. No condition. -/
import Derived.Test.YtacpodlbiphcfaaLawEScrollInto
import Derived.Test.YtacpodlbiphcfaaRowS
import Derived.Test.YtacpodlbiphcfaaFacts
import Derived.Test.YtacpodlbiphcfaaFive
namespace Go.Proofs.Ytacpodlbiphcfaa
open Go.ChangeShapes Go.WideShapes Go.ChangeAt Go.RowKit

set_option maxRecDepth 100000 in
theorem fnExactScrollInto_lifted (os : Os) (started : os.Started) (H : Type) (enc : TypeId × Value → H) :
    ReturnsInHanded {} Try.checked os 11 .any (Rows.fnExactScrollIntoSpec.pre6 enc Try.prog Try.f11 Rows.fnExactScrollIntoRow.domain false) (Rows.fnExactScrollIntoSpec.post enc Try.prog Try.f11 false true false false) := by
  refine returnsInHanded_of_change (C := Try.checked) own started (by kernel_rfl) Try.func11
    (ChangeSpec.witness6 (enc := enc) (C := Try.checked) false ⟨#[], #[.int .i64 0, .int .i64 0, .int .i64 0, .int .i64 0, .int .i64 0], []⟩ 8 (by kernel_rfl) (by kernel_rfl) (by kernel_rfl) (by kernel_rfl)) ?_
  intro W base args ds gs before hval0 hW hcnd _
  have hval : ∀ (j : Nat) t v, Try.f11.params[j]? = some t → args[j]? = some v → Value.okWide Try.prog W .any base t v := hval0
  have hW' := hW
  obtain ⟨p, q, hA0, hV, rfl, hfz, hnd⟩ := hW
  have hA : DataW.TrodAll enc Try.prog W 0 (fun _ => true) true Try.f11.params.toList args.toList ds p := hA0
  rw [Try.params11] at hA hval
  obtain ⟨v0, v1, v2, v3, v4, d0, d1, d2, d3, d4, p0, p1, p2, p3, p4, rfl, rfl, rfl, h0, h1, h2, h3, h4⟩ := trodAll_five hA
  obtain ⟨rfl, rfl⟩ := trodVars_none hV
  obtain ⟨cc, rfl, u0, t0, w0⟩ := open_int Try.underlying3 (hval 0 3 v0 rfl rfl) h0
  have lt0 : ∀ x ∈ p0, x.block < W.heap.size := by obtain ⟨k, hk⟩ := h0; exact DataW.trod_lt k _ _ _ hk
  obtain ⟨v, rfl, u1, t1, w1⟩ := open_int Try.underlying3 (hval 1 3 v1 rfl rfl) h1
  have lt1 : ∀ x ∈ p1, x.block < W.heap.size := by obtain ⟨k, hk⟩ := h1; exact DataW.trod_lt k _ _ _ hk
  obtain ⟨a, rfl, u2, t2, w2⟩ := open_int Try.underlying3 (hval 2 3 v2 rfl rfl) h2
  have lt2 : ∀ x ∈ p2, x.block < W.heap.size := by obtain ⟨k, hk⟩ := h2; exact DataW.trod_lt k _ _ _ hk
  obtain ⟨l, rfl, u3, t3, w3⟩ := open_int Try.underlying3 (hval 3 3 v3 rfl rfl) h3
  have lt3 : ∀ x ∈ p3, x.block < W.heap.size := by obtain ⟨k, hk⟩ := h3; exact DataW.trod_lt k _ _ _ hk
  obtain ⟨h, rfl, u4, t4, w4⟩ := open_int Try.underlying3 (hval 4 3 v4 rfl rfl) h4
  have lt4 : ∀ x ∈ p4, x.block < W.heap.size := by obtain ⟨k, hk⟩ := h4; exact DataW.trod_lt k _ _ _ hk
  clear hA0 hval0
  refine (lawExactScrollInto cc v a l h W).mono fun e W' ⟨he, hN⟩ => ?_
  subst he
  exact ⟨_, rfl, _, _, _, [], _, [], hW', trodAll_mk1 (shut_bool Try.underlying4 _), trodAll_mk5 (Below.trod fact_laid (by kernel_rfl) (of_decide_eq_true (by kernel_rfl)) h0 hN lt0) (Below.trod fact_laid (by kernel_rfl) (of_decide_eq_true (by kernel_rfl)) h1 hN lt1) (Below.trod fact_laid (by kernel_rfl) (of_decide_eq_true (by kernel_rfl)) h2 hN lt2) (Below.trod fact_laid (by kernel_rfl) (of_decide_eq_true (by kernel_rfl)) h3 hN lt3) (Below.trod fact_laid (by kernel_rfl) (of_decide_eq_true (by kernel_rfl)) h4 hN lt4), rfl, Below.frame hN _, fun h => by cases h⟩

theorem fnExactScrollInto_facts : joinedFacts Try.prog 11 Try.f11 Rows.fnExactScrollIntoSpec Rows.fnExactScrollIntoRow = true := by
  unfold joinedFacts
  rw [fact_laid, fact_maps, fact_heard, fact_enter, fact_make, fact_final]
  kernel_rfl
theorem fnExactScrollInto_named : Try.prog.funcNamed Rows.fnExactScrollIntoRow.func = some 11 := by kernel_rfl
theorem fnExactScrollInto_instance : Try.f11.isInstance Try.prog Rows.fnExactScrollIntoRow.origin Rows.fnExactScrollIntoRow.targs := of_decide_eq_true (by kernel_rfl)
theorem fnExactScrollInto_holds : Rows.FnExactScrollIntoSaid :=
  OpenClaim.holds_of_wide 11 Try.f11 rfl rfl rfl rfl rfl rfl rfl ⟨rfl, rfl, rfl, rfl, rfl⟩ rfl rfl rfl rfl rfl fnExactScrollInto_named Try.func11 fnExactScrollInto_facts
    fnExactScrollInto_instance (by unfold Func.isWrapper; first | (rw [if_pos (by decide +kernel)]; kernel_rfl) | (rw [if_neg (by decide +kernel)]; exact ⟨rfl, rfl⟩))
    (fun os started H enc _ => fnExactScrollInto_lifted os started H enc)
#print axioms fnExactScrollInto_holds
end Go.Proofs.Ytacpodlbiphcfaa
