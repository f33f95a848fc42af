/- The law FnExactWriteCell returns true whatever the buffers and the numbers, and its arguments read afterwards as before: its given statement, proved. No condition. -/
import Derived.Test.YtopnegbaieflpaaLawEWriteCell
import Derived.Test.YtopnegbaieflpaaBufP
import Derived.Test.YtopnegbaieflpaaRow1Buf
import Derived.Test.YtopnegbaieflpaaFacts
namespace Go.Proofs.Ytopnegbaieflpaa
open Go.ChangeShapes Go.WideShapes Go.ChangeAt Go.RowKit

set_option maxRecDepth 100000 in
theorem fnExactWriteCell_lifted (os : Os) (started : os.Started) (H : Type) (enc : TypeId × Value → H) :
    ReturnsInHanded {} Try.checked os 5 .any (Rows.fnExactWriteCellSpec.pre6 enc Try.prog Try.f5 Rows.fnExactWriteCellRow.domain false) (Rows.fnExactWriteCellSpec.post enc Try.prog Try.f5 false true false false) := by
  refine returnsInHanded_of_change (C := Try.checked) own started (by kernel_rfl) Try.func5
    (ChangeSpec.witness6 (enc := enc) (C := Try.checked) false ⟨#[], #[.agg #[.slice none 0 0, .slice none 0 0, .int .i64 0], .int .i64 0, .int .i64 0], []⟩ 8 (by kernel_rfl) (by kernel_rfl) (by kernel_rfl) (by kernel_rfl)) ?_
  intro W base args ds gs before hval0 hW hcnd _
  have hval : ∀ (j : Nat) t v, Try.f5.params[j]? = some t → args[j]? = some v → Value.okWide Try.prog W .any base t v := hval0
  have hW' := hW
  obtain ⟨p, q, hA0, hV, rfl, hfz, hnd⟩ := hW
  have hA : DataW.TrodAll enc Try.prog W 0 (fun _ => true) true Try.f5.params.toList args.toList ds p := hA0
  rw [Try.params5] at hA hval
  obtain ⟨v0, v1, v2, d0, d1, d2, p0, p1, p2, rfl, rfl, rfl, h0, h1, h2⟩ := trodAll_three hA
  obtain ⟨rfl, rfl⟩ := trodVars_none hV
  obtain ⟨Ab, nb, cb, Bb, mb, db, vb, xb, yb, rfl, hnb, hmb, hxb, hyb⟩ := open_Buffers1 (hval 0 24 v0 rfl rfl) h0
  have lt0 : ∀ x ∈ p0, x.block < W.heap.size := by obtain ⟨k, hk⟩ := h0; exact DataW.trod_lt k _ _ _ hk
  obtain ⟨a, rfl, u1, t1, w1⟩ := open_int Try.underlying3 (hval 1 3 v1 rfl rfl) h1
  have lt1 : ∀ x ∈ p1, x.block < W.heap.size := by obtain ⟨k, hk⟩ := h1; exact DataW.trod_lt k _ _ _ hk
  obtain ⟨z, rfl, u2, t2, w2⟩ := open_int Try.underlying3 (hval 2 3 v2 rfl rfl) h2
  have lt2 : ∀ x ∈ p2, x.block < W.heap.size := by obtain ⟨k, hk⟩ := h2; exact DataW.trod_lt k _ _ _ hk
  clear hA0 hval0
  refine (lawExactWriteCell Ab nb cb Bb mb db vb xb yb a z (wrOk vb xb yb a z) (okV (wrOk vb xb yb a z) vb) (okL (wrOk vb xb yb a z) xb) (okL (wrOk vb xb yb a z) (yb.set a.toNat z)) (wr_len vb xb yb a z).1 (wr_len vb xb yb a z).2 (fun C p k D q l W h h' hp hq => WriteCell_ansB C p k D q l vb xb yb a z hp hq W h h') (fun C p k D q l W h h' hp hq => SWriteCell_ansB C p k D q l vb xb yb a z hp hq W h h') W hxb hyb hnb hmb).mono fun e W' ⟨he, hN⟩ => ?_
  subst he
  exact ⟨_, rfl, _, _, _, [], _, [], hW', trodAll_mk1 (shut_bool Try.underlying4 _), trodAll_mk3 (Below.trod fact_laid (by kernel_rfl) (of_decide_eq_true (by kernel_rfl)) h0 hN lt0) (Below.trod fact_laid (by kernel_rfl) (of_decide_eq_true (by kernel_rfl)) h1 hN lt1) (Below.trod fact_laid (by kernel_rfl) (of_decide_eq_true (by kernel_rfl)) h2 hN lt2), rfl, Below.frame hN _, fun h => by cases h⟩

theorem fnExactWriteCell_facts : joinedFacts Try.prog 5 Try.f5 Rows.fnExactWriteCellSpec Rows.fnExactWriteCellRow = true := by
  unfold joinedFacts
  rw [fact_laid, fact_maps, fact_heard, fact_enter, fact_make, fact_final]
  kernel_rfl
theorem fnExactWriteCell_named : Try.prog.funcNamed Rows.fnExactWriteCellRow.func = some 5 := by kernel_rfl
theorem fnExactWriteCell_instance : Try.f5.isInstance Try.prog Rows.fnExactWriteCellRow.origin Rows.fnExactWriteCellRow.targs := of_decide_eq_true (by kernel_rfl)
theorem fnExactWriteCell_holds : Rows.FnExactWriteCellSaid :=
  OpenClaim.holds_of_wide 5 Try.f5 rfl rfl rfl rfl rfl rfl rfl ⟨rfl, rfl, rfl, rfl, rfl⟩ rfl rfl rfl rfl rfl fnExactWriteCell_named Try.func5 fnExactWriteCell_facts
    fnExactWriteCell_instance (by unfold Func.isWrapper; first | (rw [if_pos (by decide +kernel)]; kernel_rfl) | (rw [if_neg (by decide +kernel)]; exact ⟨rfl, rfl⟩))
    (fun os started H enc _ => fnExactWriteCell_lifted os started H enc)
#print axioms fnExactWriteCell_holds
end Go.Proofs.Ytopnegbaieflpaa
