/- The law FnExactRowsUsed returns true whatever the widths and the columns, and its arguments read afterwards as before: its given statement, proved. No condition. -/
import Derived.Test.YtmpbghepcjcnjaaLawERowsUsed
import Derived.Test.YtmpbghepcjcnjaaAutI
import Derived.Test.YtmpbghepcjcnjaaAutS
import Derived.Test.YtmpbghepcjcnjaaRowS
import Derived.Test.YtmpbghepcjcnjaaFacts
namespace Go.Proofs.Ytmpbghepcjcnjaa
open Go.ChangeShapes Go.WideShapes Go.ChangeAt Go.RowKit

set_option maxRecDepth 100000 in
theorem fnExactRowsUsed_lifted (os : Os) (started : os.Started) (H : Type) (enc : TypeId × Value → H) :
    ReturnsInHanded {} Try.checked os 7 .any (Rows.fnExactRowsUsedSpec.pre6 enc Try.prog Try.f7 Rows.fnExactRowsUsedRow.domain false) (Rows.fnExactRowsUsedSpec.post enc Try.prog Try.f7 false true false false) := by
  refine returnsInHanded_of_change (C := Try.checked) own started (by kernel_rfl) Try.func7
    (ChangeSpec.witness6 (enc := enc) (C := Try.checked) false ⟨#[], #[.slice none 0 0, .int .i64 0], []⟩ 8 (by kernel_rfl) (by kernel_rfl) (by kernel_rfl) (by kernel_rfl)) ?_
  intro W base args ds gs before hval0 hW hcnd _
  have hval : ∀ (j : Nat) t v, Try.f7.params[j]? = some t → args[j]? = some v → Value.okWide Try.prog W .any base t v := hval0
  have hW' := hW
  obtain ⟨p, q, hA0, hV, rfl, hfz, hnd⟩ := hW
  have hA : DataW.TrodAll enc Try.prog W 0 (fun _ => true) true Try.f7.params.toList args.toList ds p := hA0
  rw [Try.params7] at hA hval
  obtain ⟨v0, v1, d0, d1, p0, p1, rfl, rfl, rfl, h0, h1⟩ := trodAll_two hA
  obtain ⟨rfl, rfl⟩ := trodVars_none hV
  obtain ⟨Ax, nx, cx, xx, rfl, hnx, _, hxx⟩ := open_nums (hval 0 29 v0 rfl rfl) h0
  have lt0 : ∀ x ∈ p0, x.block < W.heap.size := by obtain ⟨k, hk⟩ := h0; exact DataW.trod_lt k _ _ _ hk
  obtain ⟨c, rfl, u1, t1, w1⟩ := open_int Try.underlying3 (hval 1 3 v1 rfl rfl) h1
  have lt1 : ∀ x ∈ p1, x.block < W.heap.size := by obtain ⟨k, hk⟩ := h1; exact DataW.trod_lt k _ _ _ hk
  clear hA0 hval0
  refine (lawExactRowsUsed Ax nx cx xx c (ruA xx c) (fun B m d W h hm => RowsUsed_any B m d xx c hm W h) (fun B m d W h hm => SRowsUsed_any B m d xx c hm W h) W hxx hnx).mono fun e W' ⟨he, hN⟩ => ?_
  subst he
  exact ⟨_, rfl, _, _, _, [], _, [], hW', trodAll_mk1 (shut_bool Try.underlying4 _), trodAll_mk2 (Below.trod fact_laid (by kernel_rfl) (of_decide_eq_true (by kernel_rfl)) h0 hN lt0) (Below.trod fact_laid (by kernel_rfl) (of_decide_eq_true (by kernel_rfl)) h1 hN lt1), rfl, Below.frame hN _, fun h => by cases h⟩

theorem fnExactRowsUsed_facts : joinedFacts Try.prog 7 Try.f7 Rows.fnExactRowsUsedSpec Rows.fnExactRowsUsedRow = true := by
  unfold joinedFacts
  rw [fact_laid, fact_maps, fact_heard, fact_enter, fact_make, fact_final]
  kernel_rfl
theorem fnExactRowsUsed_named : Try.prog.funcNamed Rows.fnExactRowsUsedRow.func = some 7 := by kernel_rfl
theorem fnExactRowsUsed_instance : Try.f7.isInstance Try.prog Rows.fnExactRowsUsedRow.origin Rows.fnExactRowsUsedRow.targs := of_decide_eq_true (by kernel_rfl)
theorem fnExactRowsUsed_holds : Rows.FnExactRowsUsedSaid :=
  OpenClaim.holds_of_wide 7 Try.f7 rfl rfl rfl rfl rfl rfl rfl ⟨rfl, rfl, rfl, rfl, rfl⟩ rfl rfl rfl rfl rfl fnExactRowsUsed_named Try.func7 fnExactRowsUsed_facts
    fnExactRowsUsed_instance (by unfold Func.isWrapper; first | (rw [if_pos (by decide +kernel)]; kernel_rfl) | (rw [if_neg (by decide +kernel)]; exact ⟨rfl, rfl⟩))
    (fun os started H enc _ => fnExactRowsUsed_lifted os started H enc)
#print axioms fnExactRowsUsed_holds
end Go.Proofs.Ytmpbghepcjcnjaa
