/- The law FnExactSpanOf returns true whatever the tracks and the numbers, and its arguments read afterwards as before: its given statement, proved. No condition. -/
import Derived.Test.YtmpbghepcjcnjaaLawESpanOf
import Derived.Test.YtmpbghepcjcnjaaSpnI
import Derived.Test.YtmpbghepcjcnjaaSpnS
import Derived.Test.YtmpbghepcjcnjaaRowTrack
import Derived.Test.YtmpbghepcjcnjaaFive
import Derived.Test.YtmpbghepcjcnjaaFacts
namespace Go.Proofs.Ytmpbghepcjcnjaa
open Go.ChangeShapes Go.WideShapes Go.ChangeAt Go.RowKit

set_option maxRecDepth 100000 in
theorem fnExactSpanOf_lifted (os : Os) (started : os.Started) (H : Type) (enc : TypeId × Value → H) :
    ReturnsInHanded {} Try.checked os 5 .any (Rows.fnExactSpanOfSpec.pre6 enc Try.prog Try.f5 Rows.fnExactSpanOfRow.domain false) (Rows.fnExactSpanOfSpec.post enc Try.prog Try.f5 false true false false) := by
  refine returnsInHanded_of_change (C := Try.checked) own started (by kernel_rfl) Try.func5
    (ChangeSpec.witness6 (enc := enc) (C := Try.checked) false ⟨#[], #[.slice none 0 0, .int .i64 0, .int .i64 0, .int .i64 0, .int .i64 0], []⟩ 8 (by kernel_rfl) (by kernel_rfl) (by kernel_rfl) (by kernel_rfl)) ?_
  intro W base args ds gs before hval0 hW hcnd _
  have hval : ∀ (j : Nat) t v, Try.f5.params[j]? = some t → args[j]? = some v → Value.okWide Try.prog W .any base t v := hval0
  have hW' := hW
  obtain ⟨p, q, hA0, hV, rfl, hfz, hnd⟩ := hW
  have hA : DataW.TrodAll enc Try.prog W 0 (fun _ => true) true Try.f5.params.toList args.toList ds p := hA0
  rw [Try.params5] at hA hval
  obtain ⟨v0, v1, v2, v3, v4, d0, d1, d2, d3, d4, p0, p1, p2, p3, p4, rfl, rfl, rfl, h0, h1, h2, h3, h4⟩ := trodAll_five hA
  obtain ⟨rfl, rfl⟩ := trodVars_none hV
  obtain ⟨Al, nl, cl, xl, rfl, hnl, hxl⟩ := open_TrackS (hval 0 22 v0 rfl rfl) h0
  have lt0 : ∀ x ∈ p0, x.block < W.heap.size := by obtain ⟨k, hk⟩ := h0; exact DataW.trod_lt k _ _ _ hk
  obtain ⟨s, rfl, u1, t1, w1⟩ := open_int Try.underlying3 (hval 1 3 v1 rfl rfl) h1
  have lt1 : ∀ x ∈ p1, x.block < W.heap.size := by obtain ⟨k, hk⟩ := h1; exact DataW.trod_lt k _ _ _ hk
  obtain ⟨g, rfl, u2, t2, w2⟩ := open_int Try.underlying3 (hval 2 3 v2 rfl rfl) h2
  have lt2 : ∀ x ∈ p2, x.block < W.heap.size := by obtain ⟨k, hk⟩ := h2; exact DataW.trod_lt k _ _ _ hk
  obtain ⟨f, rfl, u3, t3, w3⟩ := open_int Try.underlying3 (hval 3 3 v3 rfl rfl) h3
  have lt3 : ∀ x ∈ p3, x.block < W.heap.size := by obtain ⟨k, hk⟩ := h3; exact DataW.trod_lt k _ _ _ hk
  obtain ⟨m, rfl, u4, t4, w4⟩ := open_int Try.underlying3 (hval 4 3 v4 rfl rfl) h4
  have lt4 : ∀ x ∈ p4, x.block < W.heap.size := by obtain ⟨k, hk⟩ := h4; exact DataW.trod_lt k _ _ _ hk
  clear hA0 hval0
  refine (lawExactSpanOf Al nl cl xl s g f m (spA (tsA nl xl s g) g f m) (spS (tsA nl xl s g) g f m) (spOk (tsA nl xl s g) f m) (fun B q d W h hm => by have e : q = nl := by { have h1 := h.len; have h2 := hxl.len; omega }; subst e; exact SpanOf_any B q d xl s g f m hm W h) (fun B q d W h hm => by have e : q = nl := by { have h1 := h.len; have h2 := hxl.len; omega }; subst e; exact SSpanOf_any B q d xl s g f m hm W h) W hxl hnl).mono fun e W' ⟨he, hN⟩ => ?_
  subst he
  exact ⟨_, rfl, _, _, _, [], _, [], hW', trodAll_mk1 (shut_bool Try.underlying4 _), trodAll_mk5 (Below.trod fact_laid (by kernel_rfl) (of_decide_eq_true (by kernel_rfl)) h0 hN lt0) (Below.trod fact_laid (by kernel_rfl) (of_decide_eq_true (by kernel_rfl)) h1 hN lt1) (Below.trod fact_laid (by kernel_rfl) (of_decide_eq_true (by kernel_rfl)) h2 hN lt2) (Below.trod fact_laid (by kernel_rfl) (of_decide_eq_true (by kernel_rfl)) h3 hN lt3) (Below.trod fact_laid (by kernel_rfl) (of_decide_eq_true (by kernel_rfl)) h4 hN lt4), rfl, Below.frame hN _, fun h => by cases h⟩

theorem fnExactSpanOf_facts : joinedFacts Try.prog 5 Try.f5 Rows.fnExactSpanOfSpec Rows.fnExactSpanOfRow = true := by
  unfold joinedFacts
  rw [fact_laid, fact_maps, fact_heard, fact_enter, fact_make, fact_final]
  kernel_rfl
theorem fnExactSpanOf_named : Try.prog.funcNamed Rows.fnExactSpanOfRow.func = some 5 := by kernel_rfl
theorem fnExactSpanOf_instance : Try.f5.isInstance Try.prog Rows.fnExactSpanOfRow.origin Rows.fnExactSpanOfRow.targs := of_decide_eq_true (by kernel_rfl)
theorem fnExactSpanOf_holds : Rows.FnExactSpanOfSaid :=
  OpenClaim.holds_of_wide 5 Try.f5 rfl rfl rfl rfl rfl rfl rfl ⟨rfl, rfl, rfl, rfl, rfl⟩ rfl rfl rfl rfl rfl fnExactSpanOf_named Try.func5 fnExactSpanOf_facts
    fnExactSpanOf_instance (by unfold Func.isWrapper; first | (rw [if_pos (by decide +kernel)]; kernel_rfl) | (rw [if_neg (by decide +kernel)]; exact ⟨rfl, rfl⟩))
    (fun os started H enc _ => fnExactSpanOf_lifted os started H enc)
#print axioms fnExactSpanOf_holds
end Go.Proofs.Ytmpbghepcjcnjaa
