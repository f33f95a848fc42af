/- The drawn arguments of OffsetsOf: a short list of small numbers, a space, a gap, a way to justify. Condition: the code can be read. -/
import Derived.Test.YtffggmjhaaehlaaDoorSpoil
namespace Go.Proofs.YtffggmjhaaehlaaDoor
open Go.RowKit

/-- What a drawn number leaves. -/
def DrawnI (s : Nat) (w : World) (a : Nat) (A : Option Addr) (m p : Nat) (e : Ending) (w' : World) : Prop :=
  ∃ z : Int, e = .returned (.int .i64 z) ∧ (-1000000000 ≤ z ∧ z ≤ 1000000000) ∧ (∃ q, q ≤ p + s ∧ Rdr w' a A m q) ∧ w.grownBy w' (some a)
/-- What drawing a list and three numbers leaves. -/
def DrawnLNNN (N : Nat) (w : World) (e : Ending) (w' : World) : Prop :=
  ∃ (B : Option Addr) (n c : Nat) (ys : List Int) (x y z : Int), e = .returned (.tuple #[.slice B n c, .int .i64 x, .int .i64 y, .int .i64 z]) ∧ Ints w' B n ys ∧ n ≤ N ∧ Sml ys ∧ (-1000000000 ≤ x ∧ x ≤ 1000000000) ∧ (-1000000000 ≤ y ∧ y ≤ 1000000000) ∧ (-1000000000 ≤ z ∧ z ≤ 1000000000) ∧ New w w'
end Go.Proofs.YtffggmjhaaehlaaDoor
