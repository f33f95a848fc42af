/- The law FnExactInRect returns true whatever the rectangle and the point, and its arguments read afterwards as before: its given statement, proved. No condition. -/
import Derived.Test.YtadoemojppkmpaaExactA
import Derived.Test.YtadoemojppkmpaaRow
import Derived.Test.YtadoemojppkmpaaFacts
namespace Go.Proofs.Ytadoemojppkmpaa
open Go.ChangeShapes Go.WideShapes Go.ChangeAt Go.RowKit

set_option maxRecDepth 100000 in
theorem fnExactInRect_lifted (os : Os) (started : os.Started) (H : Type) (enc : TypeId × Value → H) :
    ReturnsInHanded {} Try.checked os 16 .any (Rows.fnExactInRectSpec.pre6 enc Try.prog Try.f16 Rows.fnExactInRectRow.domain false) (Rows.fnExactInRectSpec.post enc Try.prog Try.f16 false true false false) := by
  refine returnsInHanded_of_change (C := Try.checked) own started (by kernel_rfl) Try.func16
    (ChangeSpec.witness6 (enc := enc) (C := Try.checked) false ⟨#[], #[rc 0 0 0 0, .int .i64 0, .int .i64 0], []⟩ 8 (by kernel_rfl) (by kernel_rfl) (by kernel_rfl) (by kernel_rfl)) ?_
  intro W base args ds gs before hval0 hW hcnd _
  have hval : ∀ (j : Nat) t v, Try.f16.params[j]? = some t → args[j]? = some v → Value.okWide Try.prog W .any base t v := hval0
  have hW' := hW
  obtain ⟨p, q, hA0, hV, rfl, hfz, hnd⟩ := hW
  have hA : DataW.TrodAll enc Try.prog W 0 (fun _ => true) true Try.f16.params.toList args.toList ds p := hA0
  rw [Try.params16] at hA hval
  obtain ⟨v0, v1, v2, d0, d1, d2, p0, p1, p2, rfl, rfl, rfl, h0, h1, h2⟩ := trodAll_three hA
  obtain ⟨rfl, rfl⟩ := trodVars_none hV
  obtain ⟨x, y, ww, hh, rfl, rfl, s0⟩ := open_rect (hval 0 39 v0 rfl rfl) h0
  obtain ⟨px, rfl, rfl, rfl, w1⟩ := open_int Try.underlying3 (hval 1 3 v1 rfl rfl) h1
  obtain ⟨py, rfl, rfl, rfl, w2⟩ := open_int Try.underlying3 (hval 2 3 v2 rfl rfl) h2
  clear hA0 hval0
  simp only [List.append_nil] at hW'
  refine (lawExactInRect x y ww hh px py W).mono fun e W' ⟨he, hN⟩ => ?_
  subst he
  exact ⟨_, rfl, post_new (pa := []) (pv := []) hW' hN rfl (fun _ _ _ => trodAll_mk1 (shut_bool Try.underlying4 _)) (fun sp _ => trodAll_mk3 (s0 _ _ _ _) (shut_int Try.underlying3 w1) (shut_int Try.underlying3 w2)) (fun _ _ => rfl) (ok_one (by kernel_rfl) rfl (okWide_bool_mk Try.underlying4 _))⟩

theorem fnExactInRect_facts : joinedFacts Try.prog 16 Try.f16 Rows.fnExactInRectSpec Rows.fnExactInRectRow = true := by
  unfold joinedFacts
  rw [fact_laid, fact_maps, fact_heard, fact_enter, fact_make, fact_final]
  kernel_rfl
theorem fnExactInRect_named : Try.prog.funcNamed Rows.fnExactInRectRow.func = some 16 := by kernel_rfl
theorem fnExactInRect_instance : Try.f16.isInstance Try.prog Rows.fnExactInRectRow.origin Rows.fnExactInRectRow.targs := of_decide_eq_true (by kernel_rfl)
theorem fnExactInRect_holds : Rows.FnExactInRectSaid :=
  OpenClaim.holds_of_wide 16 Try.f16 rfl rfl rfl rfl rfl rfl rfl ⟨rfl, rfl, rfl, rfl, rfl⟩ rfl rfl rfl rfl rfl fnExactInRect_named Try.func16 fnExactInRect_facts
    fnExactInRect_instance (by unfold Func.isWrapper; first | (rw [if_pos (by decide +kernel)]; kernel_rfl) | (rw [if_neg (by decide +kernel)]; exact ⟨rfl, rfl⟩))
    (fun os started H enc _ => fnExactInRect_lifted os started H enc)
#print axioms fnExactInRect_holds
end Go.Proofs.Ytadoemojppkmpaa
