/- The drawn rectangles: each draw returns four small numbers, moves the reader on, and turns nothing else. Conditions: the reader's bytes lie in an elder block; fewer than 900000 draws. -/
import Derived.Test.YtigniaebokknmaaGreatZC
import Derived.Test.YtigniaebokknmaaGreatZR
namespace Go.Proofs.YtigniaebokknmaaGreat
open Go.RowKit

/-- A number that is far from where arithmetic goes round. -/
def Sm (n : Int) : Prop := -300000 ≤ n ∧ n ≤ 300000
theorem sm_mem {zs : List Int} {z : Int} (h : z ∈ zs) (hz : ∀ y ∈ zs, -300000 ≤ y ∧ y ≤ 300000) : Sm z := hz z h

theorem lit_cells2 (zs : List Int) (w : World) (t : TypeId) (B : Nat) (hB : w.heap.size = B) : ∀ i, i < zs.length → (w.alloc (.cells (zs.map (Value.int .i64)).toArray t)).drew.cell? ⟨B, i, none⟩ = some (.int .i64 (zs.getD i 0)) := fun i hi => by
  subst hB; exact lit_cells zs w t i hi

/-- What drawing a rectangle leaves. -/
def DrawnRect (w : World) (a : Nat) (A : Option Addr) (m p : Nat) (e : Ending) (w' : World) : Prop :=
  ∃ x y ww h : Int, e = .returned (rc x y ww h) ∧ Sm x ∧ Sm y ∧ Sm ww ∧ Sm h ∧ (∃ q, p ≤ q ∧ q ≤ p + 10 ∧ Rdr w' a A m q) ∧ w.grownBy w' (some a)

/-- What drawing any rectangle leaves. -/
def DrawnRect2 (w : World) (a : Nat) (A : Option Addr) (m p : Nat) (e : Ending) (w' : World) : Prop :=
  ∃ x y ww h : Int, e = .returned (rc x y ww h) ∧ Sm x ∧ Sm y ∧ Sm ww ∧ Sm h ∧ (∃ q, p ≤ q ∧ q ≤ p + 20 ∧ Rdr w' a A m q) ∧ w.grownBy w' (some a)

end Go.Proofs.YtigniaebokknmaaGreat
