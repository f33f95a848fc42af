/- The rectangle functions of the program and of the reference answer the same: each is told by one function on numbers. No condition. -/
import Derived.Test.YtadoemojppkmpaaProg
import Derived.Test.YtadoemojppkmpaaMath
import Derived.WalkKit
import Derived.WalkSpells
import Derived.WalkLawsBesides
import Derived.Handy
import Derived.Lib.Hide
namespace Go.Proofs.Ytadoemojppkmpaa
open Go.RowKit

abbrev rc (x y w h : Int) : Value := .agg #[.int .i64 x, .int .i64 y, .int .i64 w, .int .i64 h]
/-- The world w' is w with new blocks (and stores into them). -/
def New (w w' : World) : Prop := Below w.heap.size w w'
theorem New.refl (w : World) : New w w := Below.refl _ _
theorem New.trans {a b c : World} (h : New a b) (k : New b c) : New a c := Below.trans h (Below.mono k h.size)
theorem New.alloc {a b : World} (h : New a b) (o : Obj) : New a (b.alloc o) := Below.alloc h h.size o
theorem New.setCell {a b : World} (h : New a b) {p : Addr} (hp : a.heap.size ≤ p.block) (u : Value) : New a (b.setCell p u) := Below.setCell h hp u
theorem New.drew {a b : World} (h : New a b) : New a b.drew := Below.drew h
theorem New.drewN {a b : World} (h : New a b) (n : Nat) : New a (b.drewN n) := ⟨h.os, h.tape, h.output, h.size, h.block⟩
theorem New.cells {a b : World} (h : New a b) : ∀ k o, k < a.heap.size → b.cell? ⟨k, o, none⟩ = a.cell? ⟨k, o, none⟩ := fun k o hk => Below.cell (p := ⟨k, o, none⟩) h hk
theorem New.marks {a b : World} (h : New a b) : ∀ k o, k < a.heap.size → b.frozen? ⟨k, o, none⟩ = a.frozen? ⟨k, o, none⟩ := fun k o hk => Below.frozen (p := ⟨k, o, none⟩) h hk
theorem New.le {a b : World} (h : New a b) : a.heap.size ≤ b.heap.size := h.size
/-- What a cell holds, whatever it is. -/
def cv (w : World) (a : Addr) : Value := (w.cell? a).getD undef
theorem cv_of {w : World} {a : Addr} (h : (w.cell? a).isSome = true) : w.cell? a = some (cv w a) := by
  unfold cv
  cases hx : w.cell? a with
  | none => rw [hx] at h; cases h
  | some v => rfl
theorem cv_set {w : World} {p a : Addr} {u v : Value} (h : w.cell? a = some v) : (w.setCell p u).cell? a = some (cv (w.setCell p u) a) := by
  obtain ⟨v', hv⟩ := cell?_setCell_some (w := w) (p := p) (x := u) (q := a) (v := v) h
  exact cv_of (by rw [hv]; rfl)
theorem run_mx (P : Program) (w : World) (ts : Array TypeId) (t : TypeId) (x y : Int) : (Builtin.max_ ts t #[.int .i64 x, .int .i64 y]).run P w = .ok (.int .i64 (mx x y)) w := by rw [run_max_int2, mx_if]
theorem run_mn (P : Program) (w : World) (ts : Array TypeId) (t : TypeId) (x y : Int) : (Builtin.min_ ts t #[.int .i64 x, .int .i64 y]).run P w = .ok (.int .i64 (mn x y)) w := by rw [run_min_int2, mn_if]
theorem ret_tb {a b : Bool} (v : Value) (h : a = b) : Ending.returned (.tuple #[v, .bool a]) = .returned (.tuple #[v, .bool b]) := by rw [h]
theorem ret_bool {a b : Bool} (h : a = b) : Ending.returned (.bool a) = .returned (.bool b) := by rw [h]

set_option maxHeartbeats 400000 in
theorem within_any (n lo hi : Int) (w : World) :
    Calls Try.prog 50 #[.int .i64 n, .int .i64 lo, .int .i64 hi] w fun e w' => e = .returned (.bool (decide (lo ≤ n ∧ n ≤ hi))) ∧ w = w' := by
  go_enter Try.func50, Try.ntmps50
  go_wp2
  all_goals (go_ret; exact ⟨ret_bool (by rw [Bool.eq_iff_iff]; simp; omega), rfl⟩)

set_option maxHeartbeats 400000 in
theorem inRange_any (n lo hi : Int) (w : World) :
    Calls Try.prog 52 #[.int .i64 n, .int .i64 lo, .int .i64 hi] w fun e w' => e = .returned (.bool (decide (lo ≤ n ∧ n ≤ hi))) ∧ w = w' := by
  go_enter Try.func52, Try.ntmps52
  go_wp2
  all_goals (go_ret; exact ⟨ret_bool (by rw [Bool.eq_iff_iff]; simp; omega), rfl⟩)

set_option maxHeartbeats 400000 in
theorem valid_any (x y ww h : Int) (w : World) :
    Calls Try.prog 40 #[rc x y ww h] w fun e w' => e = .returned (.bool (vR x y ww h)) ∧ New w w' := by
  go_enter Try.func40, Try.ntmps40
  go_wp2_with (go_at_call 50; refine (within_any _ _ _ _).mono ?_; rintro e w' ⟨rfl, rfl⟩)
  all_goals (go_ret; exact ⟨ret_bool (by rw [Bool.eq_iff_iff, vR_iff]; simp at *; omega), by (repeat (first | exact New.refl _ | assumption | refine New.alloc ?_ _ | refine New.drew ?_ | refine New.drewN ?_ _ | refine New.setCell ?_ (by first | omega | (simp; omega) | (simp; done)) _ | refine New.trans ?_ (by assumption)))⟩)

set_option maxHeartbeats 400000 in
theorem validRect_any (x y ww h : Int) (w : World) :
    Calls Try.prog 41 #[rc x y ww h] w fun e w' => e = .returned (.bool (vR x y ww h)) ∧ New w w' := by
  go_enter Try.func41, Try.ntmps41
  go_wp2_with (go_at_call 52; refine (inRange_any _ _ _ _).mono ?_; rintro e w' ⟨rfl, rfl⟩)
  all_goals (go_ret; exact ⟨ret_bool (by rw [Bool.eq_iff_iff, vR_iff]; simp at *; omega), by (repeat (first | exact New.refl _ | assumption | refine New.alloc ?_ _ | refine New.drew ?_ | refine New.drewN ?_ _ | refine New.setCell ?_ (by first | omega | (simp; omega) | (simp; done)) _ | refine New.trans ?_ (by assumption)))⟩)

set_option maxHeartbeats 400000 in
theorem ValidRect_any (x y ww h : Int) (w : World) :
    Calls Try.prog 21 #[rc x y ww h] w fun e w' => e = .returned (.bool (vR x y ww h)) ∧ New w w' := by
  go_enter Try.func21, Try.ntmps21
  go_wp2_with (go_at_call 40; refine (valid_any _ _ _ _ _).mono ?_; rintro e w1 ⟨rfl, hb⟩)
  go_ret
  exact ⟨rfl, by (repeat (first | exact New.refl _ | assumption | refine New.alloc ?_ _ | refine New.drew ?_ | refine New.drewN ?_ _ | refine New.setCell ?_ (by first | omega | (simp; omega) | (simp; done)) _ | refine New.trans ?_ (by assumption)))⟩

set_option maxHeartbeats 400000 in
theorem SValidRect_any (x y ww h : Int) (w : World) :
    Calls Try.prog 22 #[rc x y ww h] w fun e w' => e = .returned (.bool (vR x y ww h)) ∧ New w w' := by
  go_enter Try.func22, Try.ntmps22
  go_wp2_with (go_at_call 41; refine (validRect_any _ _ _ _ _).mono ?_; rintro e w1 ⟨rfl, hb⟩)
  go_ret
  exact ⟨rfl, by (repeat (first | exact New.refl _ | assumption | refine New.alloc ?_ _ | refine New.drew ?_ | refine New.drewN ?_ _ | refine New.setCell ?_ (by first | omega | (simp; omega) | (simp; done)) _ | refine New.trans ?_ (by assumption)))⟩

set_option maxHeartbeats 400000 in
theorem right_any (x y ww h : Int) (w : World) (h1 : -200000 ≤ x) (h2 : x ≤ 200000) (h3 : 0 ≤ ww) (h4 : ww ≤ 400000) :
    Calls Try.prog 56 #[rc x y ww h] w fun e w' => e = .returned (.int .i64 (x + ww)) ∧ New w w' := by
  go_enter Try.func56, Try.ntmps56
  go_wp2
  go_ret
  exact ⟨rfl, by (repeat (first | exact New.refl _ | assumption | refine New.alloc ?_ _ | refine New.drew ?_ | refine New.drewN ?_ _ | refine New.setCell ?_ (by first | omega | (simp; omega) | (simp; done)) _ | refine New.trans ?_ (by assumption)))⟩

set_option maxHeartbeats 400000 in
theorem bottom_any (x y ww h : Int) (w : World) (h1 : -200000 ≤ y) (h2 : y ≤ 200000) (h3 : 0 ≤ h) (h4 : h ≤ 400000) :
    Calls Try.prog 57 #[rc x y ww h] w fun e w' => e = .returned (.int .i64 (y + h)) ∧ New w w' := by
  go_enter Try.func57, Try.ntmps57
  go_wp2
  go_ret
  exact ⟨rfl, by (repeat (first | exact New.refl _ | assumption | refine New.alloc ?_ _ | refine New.drew ?_ | refine New.drewN ?_ _ | refine New.setCell ?_ (by first | omega | (simp; omega) | (simp; done)) _ | refine New.trans ?_ (by assumption)))⟩

set_option maxHeartbeats 400000 in
theorem rectBetween_any (a b c d : Int) (w : World) (h1 : -1000000 ≤ a ∧ a ≤ 1000000) (h2 : -1000000 ≤ b ∧ b ≤ 1000000) (h3 : -1000000 ≤ c ∧ c ≤ 1000000) (h4 : -1000000 ≤ d ∧ d ≤ 1000000) :
    Calls Try.prog 58 #[.int .i64 a, .int .i64 b, .int .i64 c, .int .i64 d] w fun e w' => e = .returned (rc a b (c - a) (d - b)) ∧ New w w' := by
  go_enter Try.func58, Try.ntmps58
  go_wp2
  go_returns
  exact ⟨rfl, by (repeat (first | exact New.refl _ | assumption | refine New.alloc ?_ _ | refine New.drew ?_ | refine New.drewN ?_ _ | refine New.setCell ?_ (by first | omega | (simp; omega) | (simp; done)) _ | refine New.trans ?_ (by assumption)))⟩

end Go.Proofs.Ytadoemojppkmpaa
