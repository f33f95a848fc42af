/- Two tasks are compared; whether one of the first tasks is a certain one. No condition. -/
import Derived.Test.YtecnhjofgkhlnaaHeapS
namespace Go.Proofs.Ytecnhjofgkhlnaa
open Go.RowKit

/-- Two tasks are compared. -/
theorem eql_task (y0 y1 y2 z0 z1 z2 : Int) (w : World) : (binOp .eql 43 (.agg #[.int .i64 y0, .int .i64 y1, .int .i64 y2]) (.agg #[.int .i64 z0, .int .i64 z1, .int .i64 z2])).run Try.prog w = Result.ok (.bool (decide (y0 = z0 ∧ y1 = z1 ∧ y2 = z2))) w := by
  by_cases e0 : y0 = z0
  · by_cases e1 : y1 = z1
    · by_cases e2 : y2 = z2
      · simp [go_sem, e0, e1, e2]
      · simp [go_sem, e0, e1, e2]
    · simp [go_sem, e0, e1]
  · simp [go_sem, e0]
/-- b, or one of the first j tasks of ys is task i of zs. -/
def som (b : Bool) (ys zs : List Int) (i : Nat) : Nat → Bool
  | 0 => b
  | j + 1 => som b ys zs i j || decide (tid ys j = tid zs i ∧ trk ys j = trk zs i ∧ tag ys j = tag zs i)
theorem som_base {b : Bool} {ys zs : List Int} {i : Nat} (h : b = true) : ∀ j, som b ys zs i j = true
  | 0 => h
  | j + 1 => by show (som b ys zs i j || _) = true; rw [som_base h j]; rfl
theorem som_at {b : Bool} {ys zs : List Int} {i k : Nat} (h : tkOf ys k = tkOf zs i) : ∀ j, k < j → som b ys zs i j = true
  | 0, hk => by omega
  | j + 1, hk => by
    show (som b ys zs i j || decide (tid ys j = tid zs i ∧ trk ys j = trk zs i ∧ tag ys j = tag zs i)) = true
    by_cases e : k = j
    · subst e
      have h0 : tid ys k = tid zs i := congrArg Prod.fst h
      have h1 : trk ys k = trk zs i := congrArg (fun t : Tk => t.2.1) h
      have h2 : tag ys k = tag zs i := congrArg (fun t : Tk => t.2.2) h
      rw [decide_eq_true (show tid ys k = tid zs i ∧ trk ys k = trk zs i ∧ tag ys k = tag zs i from ⟨h0, h1, h2⟩), Bool.or_true]
    · rw [som_at h j (by omega)]; rfl
end Go.Proofs.Ytecnhjofgkhlnaa
