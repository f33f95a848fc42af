/- The law FnTreeTextLines returns true for every code, and its argument and the variable that it names read afterwards as before: its given card, proved: the listed package-level variables read as the program's own text lays them (the given tie). No other condition. -/
import Derived.Test.YtffggmjhaaehlaaDoorLawTreeTextLines
import Derived.Test.YtffggmjhaaehlaaDoorRowS
import Derived.Test.YtffggmjhaaehlaaDoorDoorM
import Derived.Test.YtffggmjhaaehlaaDoorCards
import Derived.Test.YtffggmjhaaehlaaDoorTie
namespace Go.Proofs.YtffggmjhaaehlaaDoor
open Go.ChangeShapes Go.WideShapes Go.ChangeAt Go.WideMaps Go.WideElems Go.RowKit

set_option maxRecDepth 100000 in
theorem fnTreeTextLines_lifted (os : Os) (started : os.Started) (H : Type) (enc : TypeId × Value → H) :
    ReturnsInHanded {} Tryd.checked os 4 .any (fun w args => (Rows.fnTreeTextLinesSpec.pre enc Tryd.prog Tryd.f4 [] false w args ∧ laidMetH Tryd.prog laids w) ∧ sizedMet enc Tryd.prog Tryd.f4 (OpenSpec.ofChange Rows.fnTreeTextLinesSpec) false w args)
      (Rows.fnTreeTextLinesSpec.post enc Tryd.prog Tryd.f4 false true false false) := by
  refine returnsInHanded_of_change_and (C := Tryd.checked) (X := fun w _ => laidMetH Tryd.prog laids w) (fun _ _ _ hh h => h.of_heap hh) ownD started (by kernel_rfl) Tryd.func4
    (ChangeSpec.witness_shaped (enc := enc) (C := Tryd.checked) (os := os) (X := fun w _ => laidMetH Tryd.prog laids w) false (World.doorLaid Tryd.prog 40 os) #[.slice none 0 0] 8 rfl (World.shaped_of_RefB (by kernel_rfl) (by kernel_rfl)) (by kernel_rfl) (by kernel_rfl) (by kernel_rfl) (door_met os _)) ?_
  intro W base args ds gs before hval0 hW _ _ hL _
  have hval : ∀ (j : Nat) t v, Tryd.f4.params[j]? = some t → args[j]? = some v → Value.okWide Tryd.prog W .any base t v := hval0
  have hW' := hW
  obtain ⟨p, q, hA0, hV0, rfl, hfz, hnd⟩ := hW
  have hA : DataW.TrodAll enc Tryd.prog W 0 (fun _ => true) true Tryd.f4.params.toList args.toList ds p := hA0
  have hV : DataW.TrodVars enc Tryd.prog W (fun _ => true) [knName] gs q := hV0
  rw [Tryd.params4] at hA hval
  obtain ⟨v0, d0, rfl, rfl, h0⟩ := trodAll_one hA
  obtain ⟨A, n, c, rfl, hn, hnc, hB⟩ := open_code (hval 0 29 v0 rfl rfl) h0
  have lt0 : ∀ x ∈ p, x.block < W.heap.size := by obtain ⟨k, hk⟩ := h0; exact DataW.trod_lt k _ _ _ hk
  obtain ⟨hK, hT, _⟩ := of_laid hL
  have hI := itoaC hT
  clear hA0 hval0 hV0
  refine (lawTreeTextLines A n c hn hnc W hB hI hK).mono fun e W' ⟨he, hN⟩ => ?_
  subst he
  obtain ⟨d, rfl, hV'⟩ := vars_stay hN hV
  exact ⟨_, rfl, _, _, _, [], _, _, hW', trodAll_mk1 (shut_bool Tryd.underlying4 _), trodAll_mk1 (Below.trod laidD (by kernel_rfl) (of_decide_eq_true (by kernel_rfl)) h0 hN lt0), hV', Below.frame hN _, fun h => by cases h⟩

theorem fnTreeTextLines_named : Tryd.prog.funcNamed Rows.fnTreeTextLinesRow.func = some 4 := by kernel_rfl
theorem fnTreeTextLines_holds : Rows.FnTreeTextLinesSaid :=
  OpenClaim.holds_of_wide 4 Tryd.f4 rfl rfl rfl rfl rfl rfl rfl ⟨rfl, rfl, rfl, rfl, rfl⟩ rfl rfl rfl rfl rfl fnTreeTextLines_named Tryd.func4 (by kernel_rfl)
    (of_decide_eq_true (by kernel_rfl)) (by unfold Func.isWrapper; first | (rw [if_pos (by decide +kernel)]; kernel_rfl) | (rw [if_neg (by decide +kernel)]; exact ⟨rfl, rfl⟩))
    (fun os started H enc _ => fnTreeTextLines_lifted os started H enc)
theorem fnTreeTextLines_card : Rows.FnTreeTextLinesCardSaid :=
  Claim7.holds_tied_plain_at .later [] [.data, .data, .data, .data] true Rows.fnTreeTextLinesCard.stood.harness false
    fnTreeTextLines_holds (fun _ h => by cases h) (by kernel_rfl) (fun _ h => by cases h) fnTreeTextLines_row_tie rfl ⟨rfl, rfl⟩ (by kernel_rfl) rfl
    (fun f fn hf hfn => by
      obtain rfl : f = 4 := Option.some.inj (fnTreeTextLines_named.symm.trans hf) |>.symm
      obtain rfl : fn = Tryd.f4 := (Option.some.inj (Tryd.func4.symm.trans hfn)).symm
      exact ⟨by kernel_rfl, fun j t ht => by
        rw [Tryd.params4] at ht
        have hm : t ∈ [29] := by simpa using Array.mem_of_getElem? ht
        have hall : ([29].all fun u => !Tryd.prog.wantsStandIn u) = true := by kernel_rfl
        exact (show Tryd.prog.wantsStandIn t = false by simpa using List.all_eq_true.1 hall t hm)⟩)
    (by kernel_rfl)
#print axioms fnTreeTextLines_card
end Go.Proofs.YtffggmjhaaehlaaDoor
