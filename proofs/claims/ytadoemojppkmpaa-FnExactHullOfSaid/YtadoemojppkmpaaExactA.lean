/- The laws FnExactValidRect and FnExactInRect, walked: whatever the rectangle and the point, both answers are the same. No condition. -/
import Derived.Test.YtadoemojppkmpaaRectB
namespace Go.Proofs.Ytadoemojppkmpaa
open Go.RowKit

set_option maxHeartbeats 400000 in
theorem toRect_any (x y ww h : Int) (w : World) :
    Calls Try.prog 36 #[rc x y ww h] w fun e w' => e = .returned (rc x y ww h) ∧ New w w' := by
  go_enter Try.func36, Try.ntmps36
  go_wp2
  go_returns
  exact ⟨rfl, by (repeat (first | exact New.refl _ | assumption | refine New.alloc ?_ _ | refine New.drew ?_ | refine New.drewN ?_ _ | refine New.setCell ?_ (by first | omega | (simp; omega) | (simp; done)) _ | refine New.trans ?_ (by assumption)))⟩

set_option maxHeartbeats 1000000 in
theorem lawExactValidRect (x y ww h : Int) (w : World) :
    Calls Try.prog 15 #[rc x y ww h] w fun e w' => e = .returned (.bool true) ∧ New w w' := by
  go_enter Try.func15, Try.ntmps15
  go_wp2_with (first
    | (go_at_call 36; refine (toRect_any _ _ _ _ _).mono ?_; rintro e w1 ⟨rfl, hb1⟩; (first | replace hN := hN.trans hb1 | replace hN := (hN.alloc _).trans hb1 | have hN := hb1); have hc1 := hN.cells; have hf1 := hN.marks; have hd1 := hb1.cells; have he1 := hb1.marks; have z0 : w.heap.size < w1.heap.size := (by have := hN.le; first | omega | (simp at this; omega)))
    | (go_at_call 22; refine (SValidRect_any _ _ _ _ _).mono ?_; rintro e w1 ⟨rfl, hb1⟩; (first | replace hN := hN.trans hb1 | replace hN := (hN.alloc _).trans hb1 | have hN := hb1); have hc1 := hN.cells; have hf1 := hN.marks; have hd1 := hb1.cells; have he1 := hb1.marks; have z0 : w.heap.size < w1.heap.size := (by have := hN.le; first | omega | (simp at this; omega)))
    | (go_at_call 21; refine (ValidRect_any _ _ _ _ _).mono ?_; rintro e w1 ⟨rfl, hb1⟩; (first | replace hN := hN.trans hb1 | replace hN := (hN.alloc _).trans hb1 | have hN := hb1); have hc1 := hN.cells; have hf1 := hN.marks; have hd1 := hb1.cells; have he1 := hb1.marks; have z0 : w.heap.size < w1.heap.size := (by have := hN.le; first | omega | (simp at this; omega))))
  go_ret
  exact ⟨rfl, by (repeat (first | exact New.refl _ | assumption | refine New.alloc ?_ _ | refine New.drew ?_ | refine New.drewN ?_ _ | refine New.setCell ?_ (by first | omega | (simp; omega) | (simp; done)) _ | refine New.trans ?_ (by assumption)))⟩

set_option maxHeartbeats 1000000 in
theorem lawExactInRect (x y ww h px py : Int) (w : World) :
    Calls Try.prog 16 #[rc x y ww h, .int .i64 px, .int .i64 py] w fun e w' => e = .returned (.bool true) ∧ New w w' := by
  go_enter Try.func16, Try.ntmps16
  go_wp2_with (first
    | (go_at_call 36; refine (toRect_any _ _ _ _ _).mono ?_; rintro e w1 ⟨rfl, hb1⟩; (first | replace hN := hN.trans hb1 | replace hN := (hN.alloc _).trans hb1 | have hN := hb1); have hc1 := hN.cells; have hf1 := hN.marks; have hd1 := hb1.cells; have he1 := hb1.marks; have z0 : w.heap.size < w1.heap.size := (by have := hN.le; first | omega | (simp at this; omega)))
    | (go_at_call 25; refine (SInRect_any _ _ _ _ _ _ _).mono ?_; rintro e w1 ⟨rfl, hb1⟩; (first | replace hN := hN.trans hb1 | replace hN := (hN.alloc _).trans hb1 | have hN := hb1); have hc1 := hN.cells; have hf1 := hN.marks; have hd1 := hb1.cells; have he1 := hb1.marks; have z0 : w.heap.size < w1.heap.size := (by have := hN.le; first | omega | (simp at this; omega)))
    | (go_at_call 23; refine (InRect_any _ _ _ _ _ _ _).mono ?_; rintro e w1 ⟨rfl, hb1⟩; (first | replace hN := hN.trans hb1 | replace hN := (hN.alloc _).trans hb1 | have hN := hb1); have hc1 := hN.cells; have hf1 := hN.marks; have hd1 := hb1.cells; have he1 := hb1.marks; have z0 : w.heap.size < w1.heap.size := (by have := hN.le; first | omega | (simp at this; omega))))
  go_ret
  exact ⟨rfl, by (repeat (first | exact New.refl _ | assumption | refine New.alloc ?_ _ | refine New.drew ?_ | refine New.drewN ?_ _ | refine New.setCell ?_ (by first | omega | (simp; omega) | (simp; done)) _ | refine New.trans ?_ (by assumption)))⟩

end Go.Proofs.Ytadoemojppkmpaa
