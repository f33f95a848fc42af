/- The law FnExactHullOf returns true whatever the two rectangles, and its arguments read afterwards as before: its given statement, proved. No condition. -/
import Derived.Test.YtadoemojppkmpaaExactH
import Derived.Test.YtadoemojppkmpaaRow
import Derived.Test.YtadoemojppkmpaaFacts
namespace Go.Proofs.Ytadoemojppkmpaa
open Go.ChangeShapes Go.WideShapes Go.ChangeAt Go.RowKit

set_option maxRecDepth 100000 in
theorem fnExactHullOf_lifted (os : Os) (started : os.Started) (H : Type) (enc : TypeId × Value → H) :
    ReturnsInHanded {} Try.checked os 18 .any (Rows.fnExactHullOfSpec.pre6 enc Try.prog Try.f18 Rows.fnExactHullOfRow.domain false) (Rows.fnExactHullOfSpec.post enc Try.prog Try.f18 false true false false) := by
  refine returnsInHanded_of_change (C := Try.checked) own started (by kernel_rfl) Try.func18
    (ChangeSpec.witness6 (enc := enc) (C := Try.checked) false ⟨#[], #[rc 0 0 0 0, rc 0 0 0 0], []⟩ 8 (by kernel_rfl) (by kernel_rfl) (by kernel_rfl) (by kernel_rfl)) ?_
  intro W base args ds gs before hval0 hW hcnd _
  have hval : ∀ (j : Nat) t v, Try.f18.params[j]? = some t → args[j]? = some v → Value.okWide Try.prog W .any base t v := hval0
  have hW' := hW
  obtain ⟨p, q, hA0, hV, rfl, hfz, hnd⟩ := hW
  have hA : DataW.TrodAll enc Try.prog W 0 (fun _ => true) true Try.f18.params.toList args.toList ds p := hA0
  rw [Try.params18] at hA hval
  obtain ⟨v0, v1, d0, d1, p0, p1, rfl, rfl, rfl, h0, h1⟩ := trodAll_two hA
  obtain ⟨rfl, rfl⟩ := trodVars_none hV
  obtain ⟨ax, ay, aw, ah, rfl, rfl, s0⟩ := open_rect (hval 0 39 v0 rfl rfl) h0
  obtain ⟨bx, by', bw, bh, rfl, rfl, s1⟩ := open_rect (hval 1 39 v1 rfl rfl) h1
  clear hA0 hval0
  simp only [List.append_nil] at hW'
  refine (lawExactHullOf ax ay aw ah bx by' bw bh W).mono fun e W' ⟨he, hN⟩ => ?_
  subst he
  exact ⟨_, rfl, post_new (pa := []) (pv := []) hW' hN rfl (fun _ _ _ => trodAll_mk1 (shut_bool Try.underlying4 _)) (fun sp _ => trodAll_mk2 (s0 _ _ _ _) (s1 _ _ _ _)) (fun _ _ => rfl) (ok_one (by kernel_rfl) rfl (okWide_bool_mk Try.underlying4 _))⟩

theorem fnExactHullOf_facts : joinedFacts Try.prog 18 Try.f18 Rows.fnExactHullOfSpec Rows.fnExactHullOfRow = true := by
  unfold joinedFacts
  rw [fact_laid, fact_maps, fact_heard, fact_enter, fact_make, fact_final]
  kernel_rfl
theorem fnExactHullOf_named : Try.prog.funcNamed Rows.fnExactHullOfRow.func = some 18 := by kernel_rfl
theorem fnExactHullOf_instance : Try.f18.isInstance Try.prog Rows.fnExactHullOfRow.origin Rows.fnExactHullOfRow.targs := of_decide_eq_true (by kernel_rfl)
theorem fnExactHullOf_holds : Rows.FnExactHullOfSaid :=
  OpenClaim.holds_of_wide 18 Try.f18 rfl rfl rfl rfl rfl rfl rfl ⟨rfl, rfl, rfl, rfl, rfl⟩ rfl rfl rfl rfl rfl fnExactHullOf_named Try.func18 fnExactHullOf_facts
    fnExactHullOf_instance (by unfold Func.isWrapper; first | (rw [if_pos (by decide +kernel)]; kernel_rfl) | (rw [if_neg (by decide +kernel)]; exact ⟨rfl, rfl⟩))
    (fun os started H enc _ => fnExactHullOf_lifted os started H enc)
#print axioms fnExactHullOf_holds
end Go.Proofs.Ytadoemojppkmpaa
