/- The reference's OffsetsOf, walked: it answers as the plain function does. Condition: the sizes can be read. -/
import Derived.Test.YtcoddhlfhmelkaaOffsS
namespace Go.Proofs.Ytcoddhlfhmelkaa
open Go.RowKit

theorem offsA_len (sz : List Int) (space gap j : Int) : (offsA sz space gap j).length ≤ 1048576 := by
  unfold offsA
  split
  · next h =>
    have := (rowB_len (ofOk_iff.1 h).1).2
    rw [offsL_len]; omega
  · simp
theorem soffs_any (A : Option Addr) (n c : Nat) (sz : List Int) (space gap j : Int) (hr : rowB 10000 sz = true) (hs : 0 ≤ space ∧ space ≤ 200000) (hg : 0 ≤ gap ∧ gap ≤ 50) (w : World) (hx : Ints w A n sz) :
    Calls Try.prog 45 #[.slice A n c, .int .i64 space, .int .i64 gap, .int .i64 j] w (Ans w (offsL gap (frontL (leftA sz space gap) sz.length j) sz)) := by
  by_cases h1 : j = 1
  · subst h1; exact soffs_end A n c sz space gap hr hs hg w hx
  by_cases h2 : j = 2
  · subst h2; exact soffs_mid A n c sz space gap hr hs hg w hx
  by_cases h3 : j = 3 ∧ 2 ≤ sz.length
  · obtain ⟨rfl, h4⟩ := h3; exact soffs_between A n c sz space gap h4 hr hs hg w hx
  · exact soffs_start A n c sz space gap j ⟨h1, h2, fun h => by have := fun h' => h3 ⟨h, h'⟩; omega⟩ hr hs hg w hx
set_option maxRecDepth 100000 in
set_option maxHeartbeats 4000000 in
theorem SOffsetsOf_ans (sz : List Int) (space gap j : Int) (A : Option Addr) (n c : Nat) (w : World) (hx : Ints w A n sz) (hn : n ≤ 1048576) :
    Calls Try.prog 18 #[.slice A n c, .int .i64 space, .int .i64 gap, .int .i64 j] w (Ans w (offsA sz space gap j)) := by
  have LX := Lib.hid hx.len
  have HX := Lib.hid hx
  have er : rowB 10000 sz = (decide (1 ≤ (n : Int) ∧ (n : Int) ≤ 8) && allB 0 10000 sz) := by unfold rowB; rw [hx.len]
  have ER := Lib.hid er
  have fin : ofOk sz space gap j = false → offsA sz space gap j = [] := fun h => by unfold offsA; rw [if_neg (by rw [h]; decide)]
  have FIN := Lib.hid fin
  clear hx er fin
  cases d0 : decide (1 ≤ (n : Int) ∧ (n : Int) ≤ 8)
  · have e : offsA sz space gap j = [] := FIN.out (by unfold ofOk; rw [ER.out, d0]; rfl)
    rw [e]
    clear e
    go_enter Try.func18, Try.ntmps18
    go_wp2_with (go_at_call_of 43 n; refine (inRange_any _ _ _ _).mono ?_; rw [d0]; rintro e w' ⟨rfl, rfl⟩)
    go_ret
    exact Ans.none_ rfl (by (repeat (first | exact New.refl _ | assumption | refine New.alloc ?_ _ | refine New.drew ?_ | refine New.drewN ?_ _ | refine New.setCell ?_ (by first | omega | (simp; omega) | (simp; done)) _ | refine New.trans ?_ (by assumption))))
  cases d1 : allB 0 10000 sz
  · have e : offsA sz space gap j = [] := FIN.out (by unfold ofOk; rw [ER.out, d0, d1]; rfl)
    rw [e]
    replace d1 := Lib.hid d1
    clear e
    go_enter Try.func18, Try.ntmps18
    go_wp2_with (first
      | (go_at_call_of 43 n; refine (inRange_any _ _ _ _).mono ?_; rw [d0]; rintro e w' ⟨rfl, rfl⟩)
      | (go_at_call 44; refine (allIn_any A n c sz _ _ hn _ (HX.out.new (by (repeat (first | exact New.refl _ | assumption | refine New.alloc ?_ _ | refine New.drew ?_ | refine New.drewN ?_ _ | refine New.setCell ?_ (by first | omega | (simp; omega) | (simp; done)) _ | refine New.trans ?_ (by assumption)))))).mono ?_; rw [d1.out]; rintro e w' ⟨rfl, rfl⟩))
    go_ret
    exact Ans.none_ rfl (by (repeat (first | exact New.refl _ | assumption | refine New.alloc ?_ _ | refine New.drew ?_ | refine New.drewN ?_ _ | refine New.setCell ?_ (by first | omega | (simp; omega) | (simp; done)) _ | refine New.trans ?_ (by assumption))))
  replace d1 := Lib.hid d1
  cases d2 : decide (0 ≤ space ∧ space ≤ 200000)
  · have e : offsA sz space gap j = [] := FIN.out (by unfold ofOk; rw [ER.out, d0, d1.out, d2]; rfl)
    rw [e]
    clear e
    go_enter Try.func18, Try.ntmps18
    go_wp2_with (first
      | (go_at_call_of 43 n; refine (inRange_any _ _ _ _).mono ?_; rw [d0]; rintro e w' ⟨rfl, rfl⟩)
      | (go_at_call_of 43 space; refine (inRange_any _ _ _ _).mono ?_; rw [d2]; rintro e w' ⟨rfl, rfl⟩)
      | (go_at_call 44; refine (allIn_any A n c sz _ _ hn _ (HX.out.new (by (repeat (first | exact New.refl _ | assumption | refine New.alloc ?_ _ | refine New.drew ?_ | refine New.drewN ?_ _ | refine New.setCell ?_ (by first | omega | (simp; omega) | (simp; done)) _ | refine New.trans ?_ (by assumption)))))).mono ?_; rw [d1.out]; rintro e w' ⟨rfl, rfl⟩))
    go_ret
    exact Ans.none_ rfl (by (repeat (first | exact New.refl _ | assumption | refine New.alloc ?_ _ | refine New.drew ?_ | refine New.drewN ?_ _ | refine New.setCell ?_ (by first | omega | (simp; omega) | (simp; done)) _ | refine New.trans ?_ (by assumption))))
  cases d3 : decide (0 ≤ gap ∧ gap ≤ 50)
  · have e : offsA sz space gap j = [] := FIN.out (by unfold ofOk; rw [ER.out, d0, d1.out, d2, d3]; rfl)
    rw [e]
    clear e
    go_enter Try.func18, Try.ntmps18
    go_wp2_with (first
      | (go_at_call_of 43 n; refine (inRange_any _ _ _ _).mono ?_; rw [d0]; rintro e w' ⟨rfl, rfl⟩)
      | (go_at_call_of 43 space; refine (inRange_any _ _ _ _).mono ?_; rw [d2]; rintro e w' ⟨rfl, rfl⟩)
      | (go_at_call_of 43 gap; refine (inRange_any _ _ _ _).mono ?_; rw [d3]; rintro e w' ⟨rfl, rfl⟩)
      | (go_at_call 44; refine (allIn_any A n c sz _ _ hn _ (HX.out.new (by (repeat (first | exact New.refl _ | assumption | refine New.alloc ?_ _ | refine New.drew ?_ | refine New.drewN ?_ _ | refine New.setCell ?_ (by first | omega | (simp; omega) | (simp; done)) _ | refine New.trans ?_ (by assumption)))))).mono ?_; rw [d1.out]; rintro e w' ⟨rfl, rfl⟩))
    go_ret
    exact Ans.none_ rfl (by (repeat (first | exact New.refl _ | assumption | refine New.alloc ?_ _ | refine New.drew ?_ | refine New.drewN ?_ _ | refine New.setCell ?_ (by first | omega | (simp; omega) | (simp; done)) _ | refine New.trans ?_ (by assumption))))
  cases d4 : decide (0 ≤ j ∧ j ≤ 3)
  · have e : offsA sz space gap j = [] := FIN.out (by unfold ofOk; rw [ER.out, d0, d1.out, d2, d3, d4]; rfl)
    rw [e]
    clear e
    go_enter Try.func18, Try.ntmps18
    go_wp2_with (first
      | (go_at_call_of 43 n; refine (inRange_any _ _ _ _).mono ?_; rw [d0]; rintro e w' ⟨rfl, rfl⟩)
      | (go_at_call_of 43 space; refine (inRange_any _ _ _ _).mono ?_; rw [d2]; rintro e w' ⟨rfl, rfl⟩)
      | (go_at_call_of 43 gap; refine (inRange_any _ _ _ _).mono ?_; rw [d3]; rintro e w' ⟨rfl, rfl⟩)
      | (go_at_call_of 43 j; refine (inRange_any _ _ _ _).mono ?_; rw [d4]; rintro e w' ⟨rfl, rfl⟩)
      | (go_at_call 44; refine (allIn_any A n c sz _ _ hn _ (HX.out.new (by (repeat (first | exact New.refl _ | assumption | refine New.alloc ?_ _ | refine New.drew ?_ | refine New.drewN ?_ _ | refine New.setCell ?_ (by first | omega | (simp; omega) | (simp; done)) _ | refine New.trans ?_ (by assumption)))))).mono ?_; rw [d1.out]; rintro e w' ⟨rfl, rfl⟩))
    go_ret
    exact Ans.none_ rfl (by (repeat (first | exact New.refl _ | assumption | refine New.alloc ?_ _ | refine New.drew ?_ | refine New.drewN ?_ _ | refine New.setCell ?_ (by first | omega | (simp; omega) | (simp; done)) _ | refine New.trans ?_ (by assumption))))
  have hr : rowB 10000 sz = true := by rw [ER.out, d0, d1.out]; rfl
  have e : offsA sz space gap j = offsL gap (frontL (leftA sz space gap) sz.length j) sz := by
    unfold offsA
    rw [if_pos (by unfold ofOk; rw [hr, d2, d3, d4]; rfl)]
  rw [e]
  have con := Lib.hid (fun (W : World) (h : Ints W A n sz) => soffs_any A n c sz space gap j hr (of_decide_eq_true d2) (of_decide_eq_true d3) W h)
  generalize offsL gap (frontL (leftA sz space gap) sz.length j) sz = zs at *
  clear e hr
  go_enter Try.func18, Try.ntmps18
  go_wp2_with (first
    | (go_at_call_of 43 n; refine (inRange_any _ _ _ _).mono ?_; rw [d0]; rintro e w' ⟨rfl, rfl⟩)
    | (go_at_call_of 43 space; refine (inRange_any _ _ _ _).mono ?_; rw [d2]; rintro e w' ⟨rfl, rfl⟩)
    | (go_at_call_of 43 gap; refine (inRange_any _ _ _ _).mono ?_; rw [d3]; rintro e w' ⟨rfl, rfl⟩)
    | (go_at_call_of 43 j; refine (inRange_any _ _ _ _).mono ?_; rw [d4]; rintro e w' ⟨rfl, rfl⟩)
    | (go_at_call 44; refine (allIn_any A n c sz _ _ hn _ (HX.out.new (by (repeat (first | exact New.refl _ | assumption | refine New.alloc ?_ _ | refine New.drew ?_ | refine New.drewN ?_ _ | refine New.setCell ?_ (by first | omega | (simp; omega) | (simp; done)) _ | refine New.trans ?_ (by assumption)))))).mono ?_; rw [d1.out]; rintro e w' ⟨rfl, rfl⟩)
    | (go_at_call 45; refine (con.out _ HX.out).mono ?_; rintro e w2 ⟨A2, n2, c2, rfl, l2, R2, N2⟩))
  go_ret
  exact ⟨A2, n2, c2, rfl, l2, R2, N2⟩
end Go.Proofs.Ytcoddhlfhmelkaa
