/- PathTo, CommonBox and NextLeaf of the reference, and CommonBox and NextLeaf of the program, walked. Condition: the tree can be read. -/
import Derived.Test.YtnihklilappimaaPathI
namespace Go.Proofs.Ytnihklilappimaa
open Go.RowKit

theorem Own.one {lo : Nat} (w : World) (z : Int) (hl : lo ≤ w.heap.size) : Own lo (w.alloc (.cells #[.int .i64 z] 3)) (.slice (some ⟨w.heap.size, 0, none⟩) 1 1) [z] :=
  ⟨rfl, .inr ⟨w.heap.size, 1, #[.int .i64 z], rfl, hl, heap_alloc_new w _, Nat.le_refl _, by unfold maxLen; omega, rfl, rfl⟩⟩
theorem Own.mono {lo lo' : Nat} {w : World} {v : Value} {zs : List Int} (h : Own lo w v zs) (hl : lo' ≤ lo) : Own lo' w v zs := by
  refine ⟨h.1, ?_⟩
  rcases h.2 with hn | ⟨g, cap, cur, hv, hg, hh, hc, hm, hs, ht⟩
  · exact .inl hn
  · exact .inr ⟨g, cap, cur, hv, Nat.le_trans hl hg, hh, hc, hm, hs, ht⟩
end Go.Proofs.Ytnihklilappimaa
