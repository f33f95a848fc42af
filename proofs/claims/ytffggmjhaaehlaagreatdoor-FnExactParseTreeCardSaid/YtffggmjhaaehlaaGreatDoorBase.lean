/- Small facts that every walk of this seat uses: the greater and the smaller of two numbers; worlds with new blocks. No condition. -/
import Derived.WalkKit
import Derived.WalkSpells
import Derived.WalkLawsBesides
import Derived.Handy
import Derived.Lib.Hide
namespace Go.Proofs.YtffggmjhaaehlaaGreatDoor
open Go.RowKit

/-- The greater and the smaller of two numbers. -/
def mx (a b : Int) : Int := max a b
def mn (a b : Int) : Int := min a b
theorem mx_bd {a b l u : Int} (h1 : l ≤ a ∧ a ≤ u) (h2 : l ≤ b ∧ b ≤ u) : l ≤ mx a b ∧ mx a b ≤ u := by unfold mx; omega
theorem mn_bd {a b l u : Int} (h1 : l ≤ a ∧ a ≤ u) (h2 : l ≤ b ∧ b ≤ u) : l ≤ mn a b ∧ mn a b ≤ u := by unfold mn; omega
theorem mx_if (a b : Int) : (if b > a then b else a) = mx a b := by unfold mx; omega
theorem mn_if (a b : Int) : (if b < a then b else a) = mn a b := by unfold mn; omega
/-- The world w' is w with new blocks (and stores into them). -/
def New (w w' : World) : Prop := Below w.heap.size w w'
theorem New.refl (w : World) : New w w := Below.refl _ _
theorem New.trans {a b c : World} (h : New a b) (k : New b c) : New a c := Below.trans h (Below.mono k h.size)
theorem New.alloc {a b : World} (h : New a b) (o : Obj) : New a (b.alloc o) := Below.alloc h h.size o
theorem New.setCell {a b : World} (h : New a b) {p : Addr} (hp : a.heap.size ≤ p.block) (u : Value) : New a (b.setCell p u) := Below.setCell h hp u
theorem New.drew {a b : World} (h : New a b) : New a b.drew := Below.drew h
theorem New.drewN {a b : World} (h : New a b) (n : Nat) : New a (b.drewN n) := ⟨h.os, h.tape, h.output, h.size, h.block⟩
theorem New.cells {a b : World} (h : New a b) : ∀ k o, k < a.heap.size → b.cell? ⟨k, o, none⟩ = a.cell? ⟨k, o, none⟩ := fun k o hk => Below.cell (p := ⟨k, o, none⟩) h hk
theorem New.marks {a b : World} (h : New a b) : ∀ k o, k < a.heap.size → b.frozen? ⟨k, o, none⟩ = a.frozen? ⟨k, o, none⟩ := fun k o hk => Below.frozen (p := ⟨k, o, none⟩) h hk
theorem New.le {a b : World} (h : New a b) : a.heap.size ≤ b.heap.size := h.size
/-- What a cell holds, whatever it is. -/
def cv (w : World) (a : Addr) : Value := (w.cell? a).getD undef
theorem cv_of {w : World} {a : Addr} (h : (w.cell? a).isSome = true) : w.cell? a = some (cv w a) := by
  unfold cv
  cases hx : w.cell? a with
  | none => rw [hx] at h; cases h
  | some v => rfl
theorem cv_set {w : World} {p a : Addr} {u v : Value} (h : w.cell? a = some v) : (w.setCell p u).cell? a = some (cv (w.setCell p u) a) := by
  obtain ⟨v', hv⟩ := cell?_setCell_some (w := w) (p := p) (x := u) (q := a) (v := v) h
  exact cv_of (by rw [hv]; rfl)
theorem run_mx (P : Program) (w : World) (ts : Array TypeId) (t : TypeId) (x y : Int) : (Builtin.max_ ts t #[.int .i64 x, .int .i64 y]).run P w = .ok (.int .i64 (mx x y)) w := by rw [run_max_int2, mx_if]
theorem run_mn (P : Program) (w : World) (ts : Array TypeId) (t : TypeId) (x y : Int) : (Builtin.min_ ts t #[.int .i64 x, .int .i64 y]).run P w = .ok (.int .i64 (mn x y)) w := by rw [run_min_int2, mn_if]
theorem ret_tb {a b : Bool} (v : Value) (h : a = b) : Ending.returned (.tuple #[v, .bool a]) = .returned (.tuple #[v, .bool b]) := by rw [h]
theorem ret_bool {a b : Bool} (h : a = b) : Ending.returned (.bool a) = .returned (.bool b) := by rw [h]

end Go.Proofs.YtffggmjhaaehlaaGreatDoor
