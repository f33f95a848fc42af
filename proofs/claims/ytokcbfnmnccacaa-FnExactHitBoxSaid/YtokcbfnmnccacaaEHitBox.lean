/- The law FnExactHitBox returns true whatever the tree and the numbers, and its arguments read afterwards as before: its given statement, proved. No condition. -/
import Derived.Test.YtokcbfnmnccacaaLawEHitBox
import Derived.Test.YtokcbfnmnccacaaHitI
import Derived.Test.YtokcbfnmnccacaaZY
import Derived.Test.YtokcbfnmnccacaaFive
import Derived.Test.YtokcbfnmnccacaaFacts
namespace Go.Proofs.Ytokcbfnmnccacaa
open Go.ChangeShapes Go.WideShapes Go.ChangeAt Go.RowKit

set_option maxRecDepth 100000 in
theorem fnExactHitBox_lifted (os : Os) (started : os.Started) (H : Type) (enc : TypeId × Value → H) :
    ReturnsInHanded {} Try.checked os 5 .any (Rows.fnExactHitBoxSpec.pre6 enc Try.prog Try.f5 Rows.fnExactHitBoxRow.domain false) (Rows.fnExactHitBoxSpec.post enc Try.prog Try.f5 false true false false) := by
  refine returnsInHanded_of_change (C := Try.checked) own started (by kernel_rfl) Try.func5
    (ChangeSpec.witness6 (enc := enc) (C := Try.checked) false ⟨#[], #[.slice none 0 0, .int .i64 0, .int .i64 0, .int .i64 0, .int .i64 0], []⟩ 8 (by kernel_rfl) (by kernel_rfl) (by kernel_rfl) (by kernel_rfl)) ?_
  intro W base args ds gs before hval0 hW hcnd _
  have hval : ∀ (j : Nat) t v, Try.f5.params[j]? = some t → args[j]? = some v → Value.okWide Try.prog W .any base t v := hval0
  have hW' := hW
  obtain ⟨p, q, hA0, hV, rfl, hfz, hnd⟩ := hW
  have hA : DataW.TrodAll enc Try.prog W 0 (fun _ => true) true Try.f5.params.toList args.toList ds p := hA0
  rw [Try.params5] at hA hval
  obtain ⟨v0, v1, v2, v3, v4, d0, d1, d2, d3, d4, p0, p1, p2, p3, p4, rfl, rfl, rfl, h0, h1, h2, h3, h4⟩ := trodAll_five hA
  obtain ⟨rfl, rfl⟩ := trodVars_none hV
  obtain ⟨Al, nl, cl, xl, rfl, hnl, hxl⟩ := open_BoxS (hval 0 22 v0 rfl rfl) h0
  have lt0 : ∀ x ∈ p0, x.block < W.heap.size := by obtain ⟨k, hk⟩ := h0; exact DataW.trod_lt k _ _ _ hk
  obtain ⟨a, rfl, u1, t1, w1⟩ := open_int Try.underlying3 (hval 1 3 v1 rfl rfl) h1
  have lt1 : ∀ x ∈ p1, x.block < W.heap.size := by obtain ⟨k, hk⟩ := h1; exact DataW.trod_lt k _ _ _ hk
  obtain ⟨b, rfl, u2, t2, w2⟩ := open_int Try.underlying3 (hval 2 3 v2 rfl rfl) h2
  have lt2 : ∀ x ∈ p2, x.block < W.heap.size := by obtain ⟨k, hk⟩ := h2; exact DataW.trod_lt k _ _ _ hk
  obtain ⟨x, rfl, u3, t3, w3⟩ := open_int Try.underlying3 (hval 3 3 v3 rfl rfl) h3
  have lt3 : ∀ x ∈ p3, x.block < W.heap.size := by obtain ⟨k, hk⟩ := h3; exact DataW.trod_lt k _ _ _ hk
  obtain ⟨y, rfl, u4, t4, w4⟩ := open_int Try.underlying3 (hval 4 3 v4 rfl rfl) h4
  have lt4 : ∀ x ∈ p4, x.block < W.heap.size := by obtain ⟨k, hk⟩ := h4; exact DataW.trod_lt k _ _ _ hk
  clear hA0 hval0
  refine (lawExactHitBox Al nl cl xl a b x y (hitA xl nl a b x y) (fun B m d W h hm => by have e : m = nl := by { have h1 := h.len; have h2 := hxl.len; omega }; subst e; exact HitBox_any B m d xl a b x y hm W h) (fun B m d W h hm => by have e : m = nl := by { have h1 := h.len; have h2 := hxl.len; omega }; subst e; exact SHitBox_any B m d xl a b x y hm W h) W hxl hnl).mono fun e W' ⟨he, hN⟩ => ?_
  subst he
  exact ⟨_, rfl, _, _, _, [], _, [], hW', trodAll_mk1 (shut_bool Try.underlying4 _), trodAll_mk5 (Below.trod fact_laid (by kernel_rfl) (of_decide_eq_true (by kernel_rfl)) h0 hN lt0) (Below.trod fact_laid (by kernel_rfl) (of_decide_eq_true (by kernel_rfl)) h1 hN lt1) (Below.trod fact_laid (by kernel_rfl) (of_decide_eq_true (by kernel_rfl)) h2 hN lt2) (Below.trod fact_laid (by kernel_rfl) (of_decide_eq_true (by kernel_rfl)) h3 hN lt3) (Below.trod fact_laid (by kernel_rfl) (of_decide_eq_true (by kernel_rfl)) h4 hN lt4), rfl, Below.frame hN _, fun h => by cases h⟩

theorem fnExactHitBox_facts : joinedFacts Try.prog 5 Try.f5 Rows.fnExactHitBoxSpec Rows.fnExactHitBoxRow = true := by
  unfold joinedFacts
  rw [fact_laid, fact_maps, fact_heard, fact_enter, fact_make, fact_final]
  kernel_rfl
theorem fnExactHitBox_named : Try.prog.funcNamed Rows.fnExactHitBoxRow.func = some 5 := by kernel_rfl
theorem fnExactHitBox_instance : Try.f5.isInstance Try.prog Rows.fnExactHitBoxRow.origin Rows.fnExactHitBoxRow.targs := of_decide_eq_true (by kernel_rfl)
theorem fnExactHitBox_holds : Rows.FnExactHitBoxSaid :=
  OpenClaim.holds_of_wide 5 Try.f5 rfl rfl rfl rfl rfl rfl rfl ⟨rfl, rfl, rfl, rfl, rfl⟩ rfl rfl rfl rfl rfl fnExactHitBox_named Try.func5 fnExactHitBox_facts
    fnExactHitBox_instance (by unfold Func.isWrapper; first | (rw [if_pos (by decide +kernel)]; kernel_rfl) | (rw [if_neg (by decide +kernel)]; exact ⟨rfl, rfl⟩))
    (fun os started H enc _ => fnExactHitBox_lifted os started H enc)
#print axioms fnExactHitBox_holds
end Go.Proofs.Ytokcbfnmnccacaa
