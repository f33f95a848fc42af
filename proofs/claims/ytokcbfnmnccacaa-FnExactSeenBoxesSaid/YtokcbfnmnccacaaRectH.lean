/- Marks that are still there, in a slice of Rect. Condition: the slice can be read. -/
import Derived.Test.YtokcbfnmnccacaaZS
import Derived.Test.YtokcbfnmnccacaaAnsT
namespace Go.Proofs.Ytokcbfnmnccacaa
open Go.RowKit

theorem Row.allRect {w : World} {g : Nat} {y0 y1 y2 y3 : Int} (h : Row w g [y0, y1, y2, y3]) : w.cell? ⟨g, 0, none⟩ = some (.int .i64 y0) ∧ w.cell? ⟨g, 1, none⟩ = some (.int .i64 y1) ∧ w.cell? ⟨g, 2, none⟩ = some (.int .i64 y2) ∧ w.cell? ⟨g, 3, none⟩ = some (.int .i64 y3) :=
  ⟨h.c 0 (by simp), h.c 1 (by simp), h.c 2 (by simp), h.c 3 (by simp)⟩
theorem Row.oneRect1 (w : World) (y0 y1 y2 y3 : Int) (t : TypeId) : Row (w.alloc (.cells #[.int .i64 y0, .int .i64 y1, .int .i64 y2, .int .i64 y3] t)) w.heap.size [y0, y1, y2, y3] :=
  ⟨by simp, fun i hi => by
    match i, hi with
    | 0, _ => simp [go_sem]
    | 1, _ => simp [go_sem]
    | 2, _ => simp [go_sem]
    | 3, _ => simp [go_sem]
    | i + 4, hi => simp at hi; omega, fun i hi => by simp [go_sem]⟩
end Go.Proofs.Ytokcbfnmnccacaa
