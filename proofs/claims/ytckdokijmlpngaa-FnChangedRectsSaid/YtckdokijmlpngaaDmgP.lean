/- Plain facts for the laws of chapter 16. No condition. -/
import Derived.Test.YtckdokijmlpngaaDmgM
import Derived.Test.YtckdokijmlpngaaIsIn
namespace Go.Proofs.Ytckdokijmlpngaa
open Go.RowKit

theorem inL_chg {xs ys : List Int} {n j : Nat} (h : j < n) : inL (chgTo xs ys n) j = !(same4 xs ys j) := by
  unfold inL
  cases hs : same4 xs ys j
  · rw [decide_eq_true (chgTo_mem.2 ⟨j, h, hs, rfl⟩)]; rfl
  · refine decide_eq_false fun hm => ?_
    obtain ⟨i, _, h2, e⟩ := chgTo_mem.1 hm
    obtain rfl : j = i := by omega
    rw [hs] at h2; cases h2
end Go.Proofs.Ytckdokijmlpngaa
