/- The law FnExactInsetRect returns true whatever the rectangle and the edge, and its arguments read afterwards as before: its given statement, proved. No condition. -/
import Derived.Test.YtadoemojppkmpaaExactB
import Derived.Test.YtadoemojppkmpaaRow
import Derived.Test.YtadoemojppkmpaaFacts
namespace Go.Proofs.Ytadoemojppkmpaa
open Go.ChangeShapes Go.WideShapes Go.ChangeAt Go.RowKit

set_option maxRecDepth 100000 in
theorem fnExactInsetRect_lifted (os : Os) (started : os.Started) (H : Type) (enc : TypeId × Value → H) :
    ReturnsInHanded {} Try.checked os 19 .any (Rows.fnExactInsetRectSpec.pre6 enc Try.prog Try.f19 Rows.fnExactInsetRectRow.domain false) (Rows.fnExactInsetRectSpec.post enc Try.prog Try.f19 false true false false) := by
  refine returnsInHanded_of_change (C := Try.checked) own started (by kernel_rfl) Try.func19
    (ChangeSpec.witness6 (enc := enc) (C := Try.checked) false ⟨#[], #[rc 0 0 0 0, .int .i64 0], []⟩ 8 (by kernel_rfl) (by kernel_rfl) (by kernel_rfl) (by kernel_rfl)) ?_
  intro W base args ds gs before hval0 hW hcnd _
  have hval : ∀ (j : Nat) t v, Try.f19.params[j]? = some t → args[j]? = some v → Value.okWide Try.prog W .any base t v := hval0
  have hW' := hW
  obtain ⟨p, q, hA0, hV, rfl, hfz, hnd⟩ := hW
  have hA : DataW.TrodAll enc Try.prog W 0 (fun _ => true) true Try.f19.params.toList args.toList ds p := hA0
  rw [Try.params19] at hA hval
  obtain ⟨v0, v1, d0, d1, p0, p1, rfl, rfl, rfl, h0, h1⟩ := trodAll_two hA
  obtain ⟨rfl, rfl⟩ := trodVars_none hV
  obtain ⟨x, y, ww, hh, rfl, rfl, s0⟩ := open_rect (hval 0 39 v0 rfl rfl) h0
  obtain ⟨ed, rfl, rfl, rfl, w1⟩ := open_int Try.underlying3 (hval 1 3 v1 rfl rfl) h1
  clear hA0 hval0
  simp only [List.append_nil] at hW'
  refine (lawExactInsetRect x y ww hh ed W).mono fun e W' ⟨he, hN⟩ => ?_
  subst he
  exact ⟨_, rfl, post_new (pa := []) (pv := []) hW' hN rfl (fun _ _ _ => trodAll_mk1 (shut_bool Try.underlying4 _)) (fun sp _ => trodAll_mk2 (s0 _ _ _ _) (shut_int Try.underlying3 w1)) (fun _ _ => rfl) (ok_one (by kernel_rfl) rfl (okWide_bool_mk Try.underlying4 _))⟩

theorem fnExactInsetRect_facts : joinedFacts Try.prog 19 Try.f19 Rows.fnExactInsetRectSpec Rows.fnExactInsetRectRow = true := by
  unfold joinedFacts
  rw [fact_laid, fact_maps, fact_heard, fact_enter, fact_make, fact_final]
  kernel_rfl
theorem fnExactInsetRect_named : Try.prog.funcNamed Rows.fnExactInsetRectRow.func = some 19 := by kernel_rfl
theorem fnExactInsetRect_instance : Try.f19.isInstance Try.prog Rows.fnExactInsetRectRow.origin Rows.fnExactInsetRectRow.targs := of_decide_eq_true (by kernel_rfl)
theorem fnExactInsetRect_holds : Rows.FnExactInsetRectSaid :=
  OpenClaim.holds_of_wide 19 Try.f19 rfl rfl rfl rfl rfl rfl rfl ⟨rfl, rfl, rfl, rfl, rfl⟩ rfl rfl rfl rfl rfl fnExactInsetRect_named Try.func19 fnExactInsetRect_facts
    fnExactInsetRect_instance (by unfold Func.isWrapper; first | (rw [if_pos (by decide +kernel)]; kernel_rfl) | (rw [if_neg (by decide +kernel)]; exact ⟨rfl, rfl⟩))
    (fun os started H enc _ => fnExactInsetRect_lifted os started H enc)
#print axioms fnExactInsetRect_holds
end Go.Proofs.Ytadoemojppkmpaa
