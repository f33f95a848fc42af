/- Contracts of chapter 16 on rectangles that meet, and a rectangle that is stored into a list of the call's own. Conditions: as said. -/
import Derived.Test.YtckdokijmlpngaaJoiM
import Derived.Test.YtckdokijmlpngaaRectG
import Derived.Test.YtckdokijmlpngaaRectA
import Derived.Test.YtckdokijmlpngaaAnsT
import Derived.Laws.OwnMore
namespace Go.Proofs.Ytckdokijmlpngaa
open Go.RowKit

set_option maxHeartbeats 1000000 in
theorem meets_any (ax ay aw ah bx by' bw bh : Int) (w : World) :
    Calls Try.prog 54 #[rc ax ay aw ah, rc bx by' bw bh] w fun e w' => e = .returned (.bool (mOk ax ay aw ah bx by' bw bh)) ∧ New w w' := by
  go_enter Try.func54, Try.ntmps54
  go_wp2_with (go_at_call 38; refine (MeetRects_any _ _ _ _ _ _ _ _ _).mono ?_; rintro e w1 ⟨rfl, N1⟩; have z1 := N1.le)
  go_ret
  exact ⟨rfl, New.trans (by (repeat (first | exact New.refl _ | assumption | refine New.alloc ?_ _ | refine New.drew ?_ | refine New.drewN ?_ _ | refine New.setCell ?_ (by first | omega | (simp; omega) | (simp; done)) _ | refine New.trans ?_ (by assumption)))) (N1.trans (by (repeat (first | exact New.refl _ | assumption | refine New.alloc ?_ _ | refine New.drew ?_ | refine New.drewN ?_ _ | refine New.setCell ?_ (by first | omega | (simp; omega) | (simp; done)) _ | refine New.trans ?_ (by assumption)))))⟩
/-- The hull of two valid rectangles, and whether it is valid. -/
theorem HullV_any (a b : R4) (va : v4 a = true) (vb : v4 b = true) (w : World) :
    Calls Try.prog 55 #[rc a.1 a.2.1 a.2.2.1 a.2.2.2, rc b.1 b.2.1 b.2.2.1 b.2.2.2] w fun e w' => (∃ h0 h1 h2 h3 : Int, e = .returned (.tuple #[rc h0 h1 h2 h3, .bool (v4 (hu a b))]) ∧ (v4 (hu a b) = true → hu a b = (h0, h1, h2, h3))) ∧ New w w' := by
  refine (HullOf_any a.1 a.2.1 a.2.2.1 a.2.2.2 b.1 b.2.1 b.2.2.1 b.2.2.2 w).mono ?_
  rintro e w' ⟨rfl, hN⟩
  have e1 : uOk a.1 a.2.1 a.2.2.1 a.2.2.2 b.1 b.2.1 b.2.2.1 b.2.2.2 = v4 (hu a b) := by
    rw [Bool.eq_iff_iff, uOk_iff]
    exact ⟨fun h => h.2.2, fun h => ⟨va, vb, h⟩⟩
  refine ⟨⟨_, _, _, _, by rw [e1], fun h => ?_⟩, hN⟩
  have e2 := e1.trans h
  unfold uA uB uC uD
  rw [ifB_yes e2, ifB_yes e2, ifB_yes e2, ifB_yes e2]
  rfl
theorem OwnRect.put {lo g n c : Nat} {w : World} {zs : List Int} (h : OwnRect lo w (.slice (some ⟨g, 0, none⟩) n c) n zs) (j : Nat) (r : R4) :
    OwnRect lo ((((w.setCell ⟨g, j * 4, none⟩ (.int .i64 r.1)).setCell ⟨g, j * 4 + 1, none⟩ (.int .i64 r.2.1)).setCell ⟨g, j * 4 + 2, none⟩ (.int .i64 r.2.2.1)).setCell ⟨g, j * 4 + 3, none⟩ (.int .i64 r.2.2.2)) (.slice (some ⟨g, 0, none⟩) n c) n (put4 zs j r) := by
  refine ⟨?_, by rw [put4_len]; exact h.2⟩
  have h1 := (World.ownsRow.stored h.1 (j * 4) (.int .i64 r.1)).1
  have h2 := (World.ownsRow.stored h1 (j * 4 + 1) (.int .i64 r.2.1)).1
  have h3 := (World.ownsRow.stored h2 (j * 4 + 2) (.int .i64 r.2.2.1)).1
  have h4 := (World.ownsRow.stored h3 (j * 4 + 3) (.int .i64 r.2.2.2)).1
  unfold put4
  rw [List.map_set, List.map_set, List.map_set, List.map_set]
  exact h4
end Go.Proofs.Ytckdokijmlpngaa
