/- The law FnExactReadCell returns true whatever the buffers and the number, and its arguments read afterwards as before: its given statement, proved. No condition. -/
import Derived.Test.YtopnegbaieflpaaLawEReadCell
import Derived.Test.YtopnegbaieflpaaBufP
import Derived.Test.YtopnegbaieflpaaRow1Buf
import Derived.Test.YtopnegbaieflpaaFacts
namespace Go.Proofs.Ytopnegbaieflpaa
open Go.ChangeShapes Go.WideShapes Go.ChangeAt Go.RowKit

set_option maxRecDepth 100000 in
theorem fnExactReadCell_lifted (os : Os) (started : os.Started) (H : Type) (enc : TypeId × Value → H) :
    ReturnsInHanded {} Try.checked os 4 .any (Rows.fnExactReadCellSpec.pre6 enc Try.prog Try.f4 Rows.fnExactReadCellRow.domain false) (Rows.fnExactReadCellSpec.post enc Try.prog Try.f4 false true false false) := by
  refine returnsInHanded_of_change (C := Try.checked) own started (by kernel_rfl) Try.func4
    (ChangeSpec.witness6 (enc := enc) (C := Try.checked) false ⟨#[], #[.agg #[.slice none 0 0, .slice none 0 0, .int .i64 0], .int .i64 0], []⟩ 8 (by kernel_rfl) (by kernel_rfl) (by kernel_rfl) (by kernel_rfl)) ?_
  intro W base args ds gs before hval0 hW hcnd _
  have hval : ∀ (j : Nat) t v, Try.f4.params[j]? = some t → args[j]? = some v → Value.okWide Try.prog W .any base t v := hval0
  have hW' := hW
  obtain ⟨p, q, hA0, hV, rfl, hfz, hnd⟩ := hW
  have hA : DataW.TrodAll enc Try.prog W 0 (fun _ => true) true Try.f4.params.toList args.toList ds p := hA0
  rw [Try.params4] at hA hval
  obtain ⟨v0, v1, d0, d1, p0, p1, rfl, rfl, rfl, h0, h1⟩ := trodAll_two hA
  obtain ⟨rfl, rfl⟩ := trodVars_none hV
  obtain ⟨Ab, nb, cb, Bb, mb, db, vb, xb, yb, rfl, hnb, hmb, hxb, hyb⟩ := open_Buffers1 (hval 0 24 v0 rfl rfl) h0
  have lt0 : ∀ x ∈ p0, x.block < W.heap.size := by obtain ⟨k, hk⟩ := h0; exact DataW.trod_lt k _ _ _ hk
  obtain ⟨a, rfl, u1, t1, w1⟩ := open_int Try.underlying3 (hval 1 3 v1 rfl rfl) h1
  have lt1 : ∀ x ∈ p1, x.block < W.heap.size := by obtain ⟨k, hk⟩ := h1; exact DataW.trod_lt k _ _ _ hk
  clear hA0 hval0
  refine (lawExactReadCell Ab nb cb Bb mb db vb xb yb a (rdOk vb xb yb a) (okV (rdOk vb xb yb a) (xb.getD a.toNat 0)) (fun C p k D q l W h h' hp hq => ReadCell_any C p k D q l vb xb yb a hp hq W h h') (fun C p k D q l W h h' hp hq => SReadCell_any C p k D q l vb xb yb a hp hq W h h') W hxb hyb hnb hmb).mono fun e W' ⟨he, hN⟩ => ?_
  subst he
  exact ⟨_, rfl, _, _, _, [], _, [], hW', trodAll_mk1 (shut_bool Try.underlying4 _), trodAll_mk2 (Below.trod fact_laid (by kernel_rfl) (of_decide_eq_true (by kernel_rfl)) h0 hN lt0) (Below.trod fact_laid (by kernel_rfl) (of_decide_eq_true (by kernel_rfl)) h1 hN lt1), rfl, Below.frame hN _, fun h => by cases h⟩

theorem fnExactReadCell_facts : joinedFacts Try.prog 4 Try.f4 Rows.fnExactReadCellSpec Rows.fnExactReadCellRow = true := by
  unfold joinedFacts
  rw [fact_laid, fact_maps, fact_heard, fact_enter, fact_make, fact_final]
  kernel_rfl
theorem fnExactReadCell_named : Try.prog.funcNamed Rows.fnExactReadCellRow.func = some 4 := by kernel_rfl
theorem fnExactReadCell_instance : Try.f4.isInstance Try.prog Rows.fnExactReadCellRow.origin Rows.fnExactReadCellRow.targs := of_decide_eq_true (by kernel_rfl)
theorem fnExactReadCell_holds : Rows.FnExactReadCellSaid :=
  OpenClaim.holds_of_wide 4 Try.f4 rfl rfl rfl rfl rfl rfl rfl ⟨rfl, rfl, rfl, rfl, rfl⟩ rfl rfl rfl rfl rfl fnExactReadCell_named Try.func4 fnExactReadCell_facts
    fnExactReadCell_instance (by unfold Func.isWrapper; first | (rw [if_pos (by decide +kernel)]; kernel_rfl) | (rw [if_neg (by decide +kernel)]; exact ⟨rfl, rfl⟩))
    (fun os started H enc _ => fnExactReadCell_lifted os started H enc)
#print axioms fnExactReadCell_holds
end Go.Proofs.Ytopnegbaieflpaa
