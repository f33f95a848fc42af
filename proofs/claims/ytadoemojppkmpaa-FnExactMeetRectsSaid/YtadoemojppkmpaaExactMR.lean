/- The law FnExactMeetRects returns true whatever the two rectangles, and its arguments read afterwards as before: its given statement, proved. No condition. -/
import Derived.Test.YtadoemojppkmpaaExactC
import Derived.Test.YtadoemojppkmpaaRow
import Derived.Test.YtadoemojppkmpaaFacts
namespace Go.Proofs.Ytadoemojppkmpaa
open Go.ChangeShapes Go.WideShapes Go.ChangeAt Go.RowKit

set_option maxRecDepth 100000 in
theorem fnExactMeetRects_lifted (os : Os) (started : os.Started) (H : Type) (enc : TypeId × Value → H) :
    ReturnsInHanded {} Try.checked os 17 .any (Rows.fnExactMeetRectsSpec.pre6 enc Try.prog Try.f17 Rows.fnExactMeetRectsRow.domain false) (Rows.fnExactMeetRectsSpec.post enc Try.prog Try.f17 false true false false) := by
  refine returnsInHanded_of_change (C := Try.checked) own started (by kernel_rfl) Try.func17
    (ChangeSpec.witness6 (enc := enc) (C := Try.checked) false ⟨#[], #[rc 0 0 0 0, rc 0 0 0 0], []⟩ 8 (by kernel_rfl) (by kernel_rfl) (by kernel_rfl) (by kernel_rfl)) ?_
  intro W base args ds gs before hval0 hW hcnd _
  have hval : ∀ (j : Nat) t v, Try.f17.params[j]? = some t → args[j]? = some v → Value.okWide Try.prog W .any base t v := hval0
  have hW' := hW
  obtain ⟨p, q, hA0, hV, rfl, hfz, hnd⟩ := hW
  have hA : DataW.TrodAll enc Try.prog W 0 (fun _ => true) true Try.f17.params.toList args.toList ds p := hA0
  rw [Try.params17] at hA hval
  obtain ⟨v0, v1, d0, d1, p0, p1, rfl, rfl, rfl, h0, h1⟩ := trodAll_two hA
  obtain ⟨rfl, rfl⟩ := trodVars_none hV
  obtain ⟨ax, ay, aw, ah, rfl, rfl, s0⟩ := open_rect (hval 0 39 v0 rfl rfl) h0
  obtain ⟨bx, by', bw, bh, rfl, rfl, s1⟩ := open_rect (hval 1 39 v1 rfl rfl) h1
  clear hA0 hval0
  simp only [List.append_nil] at hW'
  refine (lawExactMeetRects ax ay aw ah bx by' bw bh W).mono fun e W' ⟨he, hN⟩ => ?_
  subst he
  exact ⟨_, rfl, post_new (pa := []) (pv := []) hW' hN rfl (fun _ _ _ => trodAll_mk1 (shut_bool Try.underlying4 _)) (fun sp _ => trodAll_mk2 (s0 _ _ _ _) (s1 _ _ _ _)) (fun _ _ => rfl) (ok_one (by kernel_rfl) rfl (okWide_bool_mk Try.underlying4 _))⟩

theorem fnExactMeetRects_facts : joinedFacts Try.prog 17 Try.f17 Rows.fnExactMeetRectsSpec Rows.fnExactMeetRectsRow = true := by
  unfold joinedFacts
  rw [fact_laid, fact_maps, fact_heard, fact_enter, fact_make, fact_final]
  kernel_rfl
theorem fnExactMeetRects_named : Try.prog.funcNamed Rows.fnExactMeetRectsRow.func = some 17 := by kernel_rfl
theorem fnExactMeetRects_instance : Try.f17.isInstance Try.prog Rows.fnExactMeetRectsRow.origin Rows.fnExactMeetRectsRow.targs := of_decide_eq_true (by kernel_rfl)
theorem fnExactMeetRects_holds : Rows.FnExactMeetRectsSaid :=
  OpenClaim.holds_of_wide 17 Try.f17 rfl rfl rfl rfl rfl rfl rfl ⟨rfl, rfl, rfl, rfl, rfl⟩ rfl rfl rfl rfl rfl fnExactMeetRects_named Try.func17 fnExactMeetRects_facts
    fnExactMeetRects_instance (by unfold Func.isWrapper; first | (rw [if_pos (by decide +kernel)]; kernel_rfl) | (rw [if_neg (by decide +kernel)]; exact ⟨rfl, rfl⟩))
    (fun os started H enc _ => fnExactMeetRects_lifted os started H enc)
#print axioms fnExactMeetRects_holds
end Go.Proofs.Ytadoemojppkmpaa
