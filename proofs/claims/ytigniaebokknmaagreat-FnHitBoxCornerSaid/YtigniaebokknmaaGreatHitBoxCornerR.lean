/- The law FnHitBoxCorner returns true for every code, and the code reads afterwards as before: its given statement, proved. No condition. -/
import Derived.Test.YtigniaebokknmaaGreatLawHitBoxCorner
import Derived.Test.YtigniaebokknmaaGreatZY
import Derived.Test.YtigniaebokknmaaGreatFacts
namespace Go.Proofs.YtigniaebokknmaaGreat
open Go.ChangeShapes Go.WideShapes Go.ChangeAt Go.RowKit

set_option maxRecDepth 100000 in
theorem fnHitBoxCorner_lifted (os : Os) (started : os.Started) (H : Type) (enc : TypeId × Value → H) :
    ReturnsInHanded {} Tryz.checked os 4 .any (Rows.fnHitBoxCornerSpec.pre6 enc Tryz.prog Tryz.f4 Rows.fnHitBoxCornerRow.domain false) (Rows.fnHitBoxCornerSpec.post enc Tryz.prog Tryz.f4 false true false false) := by
  refine returnsInHanded_of_change (C := Tryz.checked) own started (by kernel_rfl) Tryz.func4
    (ChangeSpec.witness6 (enc := enc) (C := Tryz.checked) false ⟨#[], #[.slice none 0 0], []⟩ 8 (by kernel_rfl) (by kernel_rfl) (by kernel_rfl) (by kernel_rfl)) ?_
  intro W base args ds gs before hval0 hW hcnd _
  have hval : ∀ (j : Nat) t v, Tryz.f4.params[j]? = some t → args[j]? = some v → Value.okWide Tryz.prog W .any base t v := hval0
  have hW' := hW
  obtain ⟨p, q, hA0, hV, rfl, hfz, hnd⟩ := hW
  have hA : DataW.TrodAll enc Tryz.prog W 0 (fun _ => true) true Tryz.f4.params.toList args.toList ds p := hA0
  rw [Tryz.params4] at hA hval
  obtain ⟨v0, d0, rfl, rfl, h0⟩ := trodAll_one hA
  obtain ⟨rfl, rfl⟩ := trodVars_none hV
  obtain ⟨A, n, c, rfl, hn, hnc, hB⟩ := open_code (hval 0 22 v0 rfl rfl) h0
  have lt0 : ∀ x ∈ p, x.block < W.heap.size := by obtain ⟨k, hk⟩ := h0; exact DataW.trod_lt k _ _ _ hk
  clear hA0 hval0
  refine (lawHitBoxCorner A n c hn hnc W hB).mono fun e W' ⟨he, hN⟩ => ?_
  subst he
  exact ⟨_, rfl, _, _, _, [], _, [], hW', trodAll_mk1 (shut_bool Tryz.underlying4 _), trodAll_mk1 (Below.trod fact_laid (by kernel_rfl) (of_decide_eq_true (by kernel_rfl)) h0 hN lt0), rfl, Below.frame hN _, fun h => by cases h⟩

theorem fnHitBoxCorner_facts : joinedFacts Tryz.prog 4 Tryz.f4 Rows.fnHitBoxCornerSpec Rows.fnHitBoxCornerRow = true := by
  unfold joinedFacts
  rw [fact_laid, fact_maps, fact_heard, fact_enter, fact_make, fact_final]
  kernel_rfl
theorem fnHitBoxCorner_named : Tryz.prog.funcNamed Rows.fnHitBoxCornerRow.func = some 4 := by kernel_rfl
theorem fnHitBoxCorner_instance : Tryz.f4.isInstance Tryz.prog Rows.fnHitBoxCornerRow.origin Rows.fnHitBoxCornerRow.targs := of_decide_eq_true (by kernel_rfl)
theorem fnHitBoxCorner_holds : Rows.FnHitBoxCornerSaid :=
  OpenClaim.holds_of_wide 4 Tryz.f4 rfl rfl rfl rfl rfl rfl rfl ⟨rfl, rfl, rfl, rfl, rfl⟩ rfl rfl rfl rfl rfl fnHitBoxCorner_named Tryz.func4 fnHitBoxCorner_facts
    fnHitBoxCorner_instance (by unfold Func.isWrapper; first | (rw [if_pos (by decide +kernel)]; kernel_rfl) | (rw [if_neg (by decide +kernel)]; exact ⟨rfl, rfl⟩))
    (fun os started H enc _ => fnHitBoxCorner_lifted os started H enc)
#print axioms fnHitBoxCorner_holds
end Go.Proofs.YtigniaebokknmaaGreat
