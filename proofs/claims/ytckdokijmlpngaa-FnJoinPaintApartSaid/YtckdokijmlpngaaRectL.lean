/- Rectangles written out in a block of their own. No condition. -/
import Derived.Test.YtckdokijmlpngaaRectA
namespace Go.Proofs.Ytckdokijmlpngaa
open Go.RowKit

theorem Row.eight (w : World) (y0 y1 y2 y3 y4 y5 y6 y7 : Int) (t : TypeId) : Row (w.alloc (.cells #[.int .i64 y0, .int .i64 y1, .int .i64 y2, .int .i64 y3, .int .i64 y4, .int .i64 y5, .int .i64 y6, .int .i64 y7] t)) w.heap.size [y0, y1, y2, y3, y4, y5, y6, y7] :=
  ⟨by simp, fun i hi => by
    have hi' : i < 8 := by simpa using hi
    match i, hi' with
    | 0, _ => simp [go_sem]
    | 1, _ => simp [go_sem]
    | 2, _ => simp [go_sem]
    | 3, _ => simp [go_sem]
    | 4, _ => simp [go_sem]
    | 5, _ => simp [go_sem]
    | 6, _ => simp [go_sem]
    | 7, _ => simp [go_sem]
    | i + 8, h => omega, fun i hi => by simp [go_sem]⟩
end Go.Proofs.Ytckdokijmlpngaa
