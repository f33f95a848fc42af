/- slices.Clone of a list of Task that has memory. Condition: the list is short. -/
import Derived.Test.YtecnhjofgkhlnaaTaskB
namespace Go.Proofs.Ytecnhjofgkhlnaa
open Go.RowKit

set_option maxHeartbeats 1000000 in
theorem CloneTask_any (ad : Addr) (n c : Nat) (xs : List Int) (hn : n ≤ 1000) (w : World) (hx : Sts 3 w (some ad) n xs) :
    Calls Try.prog 50 #[.slice (some ad) n c] w fun e w' => ∃ v, e = .returned v ∧ OwnTask w.heap.size w' v n xs ∧ New w w' := by
  have qT : ∀ (w : World) (a : Option Addr) (n c n' c' : Nat), (binOp .eql 25 (.slice a n c) (.slice none n' c')).run Try.prog w = .ok (.bool a.isNone) w := fun w a n c n' c' => Lib.run_eql_slice_nil w _ _ a n c n' c' Try.underlying25
  have HX := Lib.hid hx
  clear hx
  go_enter Try.func50, Try.ntmps50
  go_wp2_with (at_builtin; refine wp_appTaskN rfl _ _ rfl w.heap.size _ 0 [] rfl (OwnTask.empty w (Nat.le_refl _)) (some ad) n c xs rfl (HX.out.new ((New.refl _).alloc _)) (by omega) (by simp) ?_; intro v' w' ho hg)
  have hN := new_ownTask (New.alloc (New.refl _) _) hg (OwnTask.empty w (Nat.le_refl _)) (Nat.le_refl _)
  rw [List.nil_append, Nat.zero_add] at ho
  have HO := Lib.hid ho; have hN := Lib.hid hN
  clear hg ho
  go_wp2
  go_ret
  exact ⟨_, rfl, HO.out, hN.out⟩
end Go.Proofs.Ytecnhjofgkhlnaa
