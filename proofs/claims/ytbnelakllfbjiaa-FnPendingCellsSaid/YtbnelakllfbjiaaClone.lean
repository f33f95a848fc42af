/- slices.Clone on whole numbers, and the reference's copy, walked: each answers with a row of its own. Conditions: the slice can be read; it is short. -/
import Derived.Test.YtbnelakllfbjiaaApp
import Derived.Lib.SliceRun
namespace Go.Proofs.Ytbnelakllfbjiaa
open Go.RowKit

set_option maxHeartbeats 1000000 in
theorem cloneInts_any (A : Option Addr) (n c : Nat) (xs : List Int) (hn : n ≤ 1000) (w : World) (hx : Ints w A n xs) :
    Calls Try.prog 72 #[.slice A n c] w (Ans w xs) := by
  have qT : ∀ (w : World) (a : Option Addr) (n c n' c' : Nat), (binOp .eql 23 (.slice a n c) (.slice none n' c')).run Try.prog w = .ok (.bool a.isNone) w := fun w a n c n' c' => Lib.run_eql_slice_nil w _ _ a n c n' c' Try.underlying23
  have HX := Lib.hid hx
  have lx := hx.len
  clear hx
  rcases A with _ | ad
  · have h0 : n = 0 := by
      rcases Nat.eq_zero_or_pos n with h | h
      · exact h
      · obtain ⟨b, off, e, _⟩ := HX.out.at_ h
        cases e
    subst h0
    obtain rfl : xs = [] := List.eq_nil_of_length_eq_zero lx
    clear HX lx
    go_enter Try.func72, Try.ntmps72
    go_wp2
    go_ret
    exact Ans.none_ rfl (by (repeat (first | exact New.refl _ | assumption | refine New.alloc ?_ _ | refine New.drew ?_ | refine New.drewN ?_ _ | refine New.setCell ?_ (by first | omega | (simp; omega) | (simp; done)) _ | refine New.trans ?_ (by assumption))))
  · clear lx
    go_enter Try.func72, Try.ntmps72
    go_wp2_with (at_builtin; refine wp_app rfl _ _ rfl w.heap.size _ [] rfl (Own.empty w 0 (Nat.le_refl _) rfl) (some ad) n c xs rfl (HX.out.new ((New.refl _).alloc _)) (by simp; omega) (by simp) ?_; intro v' w' ho hg)
    have hN := new_own (New.alloc (New.refl _) _) hg (Own.empty w 0 (Nat.le_refl _) rfl) (Nat.le_refl _)
    obtain ⟨A2, c2, rfl, hc2, Z2⟩ := ho.res
    have Z2 := Lib.hid Z2; have hN := Lib.hid hN
    clear hg ho
    go_wp2
    go_ret
    exact ⟨A2, _, c2, rfl, rfl, by simpa using Z2.out, hN.out⟩
theorem copyInts_ans (A : Option Addr) (n c : Nat) (xs : List Int) (hn : n ≤ 1000) (w : World) (hx : Ints w A n xs) :
    Calls Try.prog 50 #[.slice A n c] w (Ans w xs) := by
  refine (copyInts_any A n c xs hn w hx).mono ?_
  rintro e w' ⟨v, rfl, hO, hN⟩
  obtain ⟨A2, c2, rfl, _, Z2⟩ := hO.res
  exact ⟨A2, _, c2, rfl, rfl, Z2, hN⟩
end Go.Proofs.Ytbnelakllfbjiaa
