/- The law FnSeenBoxesHit returns true for every code, and the code reads afterwards as before: its given statement, proved. No condition. -/
import Derived.Test.YtigniaebokknmaaGreatLawSeenBoxesHit
import Derived.Test.YtigniaebokknmaaGreatZY
import Derived.Test.YtigniaebokknmaaGreatFacts
namespace Go.Proofs.YtigniaebokknmaaGreat
open Go.ChangeShapes Go.WideShapes Go.ChangeAt Go.RowKit

set_option maxRecDepth 100000 in
theorem fnSeenBoxesHit_lifted (os : Os) (started : os.Started) (H : Type) (enc : TypeId × Value → H) :
    ReturnsInHanded {} Tryz.checked os 3 .any (Rows.fnSeenBoxesHitSpec.pre6 enc Tryz.prog Tryz.f3 Rows.fnSeenBoxesHitRow.domain false) (Rows.fnSeenBoxesHitSpec.post enc Tryz.prog Tryz.f3 false true false false) := by
  refine returnsInHanded_of_change (C := Tryz.checked) own started (by kernel_rfl) Tryz.func3
    (ChangeSpec.witness6 (enc := enc) (C := Tryz.checked) false ⟨#[], #[.slice none 0 0], []⟩ 8 (by kernel_rfl) (by kernel_rfl) (by kernel_rfl) (by kernel_rfl)) ?_
  intro W base args ds gs before hval0 hW hcnd _
  have hval : ∀ (j : Nat) t v, Tryz.f3.params[j]? = some t → args[j]? = some v → Value.okWide Tryz.prog W .any base t v := hval0
  have hW' := hW
  obtain ⟨p, q, hA0, hV, rfl, hfz, hnd⟩ := hW
  have hA : DataW.TrodAll enc Tryz.prog W 0 (fun _ => true) true Tryz.f3.params.toList args.toList ds p := hA0
  rw [Tryz.params3] at hA hval
  obtain ⟨v0, d0, rfl, rfl, h0⟩ := trodAll_one hA
  obtain ⟨rfl, rfl⟩ := trodVars_none hV
  obtain ⟨A, n, c, rfl, hn, hnc, hB⟩ := open_code (hval 0 22 v0 rfl rfl) h0
  have lt0 : ∀ x ∈ p, x.block < W.heap.size := by obtain ⟨k, hk⟩ := h0; exact DataW.trod_lt k _ _ _ hk
  clear hA0 hval0
  refine (lawSeenBoxesHit A n c hn hnc W hB).mono fun e W' ⟨he, hN⟩ => ?_
  subst he
  exact ⟨_, rfl, _, _, _, [], _, [], hW', trodAll_mk1 (shut_bool Tryz.underlying4 _), trodAll_mk1 (Below.trod fact_laid (by kernel_rfl) (of_decide_eq_true (by kernel_rfl)) h0 hN lt0), rfl, Below.frame hN _, fun h => by cases h⟩

theorem fnSeenBoxesHit_facts : joinedFacts Tryz.prog 3 Tryz.f3 Rows.fnSeenBoxesHitSpec Rows.fnSeenBoxesHitRow = true := by
  unfold joinedFacts
  rw [fact_laid, fact_maps, fact_heard, fact_enter, fact_make, fact_final]
  kernel_rfl
theorem fnSeenBoxesHit_named : Tryz.prog.funcNamed Rows.fnSeenBoxesHitRow.func = some 3 := by kernel_rfl
theorem fnSeenBoxesHit_instance : Tryz.f3.isInstance Tryz.prog Rows.fnSeenBoxesHitRow.origin Rows.fnSeenBoxesHitRow.targs := of_decide_eq_true (by kernel_rfl)
theorem fnSeenBoxesHit_holds : Rows.FnSeenBoxesHitSaid :=
  OpenClaim.holds_of_wide 3 Tryz.f3 rfl rfl rfl rfl rfl rfl rfl ⟨rfl, rfl, rfl, rfl, rfl⟩ rfl rfl rfl rfl rfl fnSeenBoxesHit_named Tryz.func3 fnSeenBoxesHit_facts
    fnSeenBoxesHit_instance (by unfold Func.isWrapper; first | (rw [if_pos (by decide +kernel)]; kernel_rfl) | (rw [if_neg (by decide +kernel)]; exact ⟨rfl, rfl⟩))
    (fun os started H enc _ => fnSeenBoxesHit_lifted os started H enc)
#print axioms fnSeenBoxesHit_holds
end Go.Proofs.YtigniaebokknmaaGreat
