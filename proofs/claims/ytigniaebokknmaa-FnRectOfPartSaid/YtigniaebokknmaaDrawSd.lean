/- A drawn side. Condition: the code can be read. -/
import Derived.Test.YtigniaebokknmaaDrawOf
namespace Go.Proofs.Ytigniaebokknmaa
open Go.RowKit

set_option maxHeartbeats 1000000 in
theorem someSide_any (a : Nat) (A : Option Addr) (m p : Nat) (hp : p ≤ 900000) (hm : m ≤ 2000) (w : World) (h : Rdr w a A m p) :
    Calls Try.prog 23 #[.pointer (some ⟨a, 0, none⟩)] w fun e w' => ∃ z : Int, e = .returned (.int .i64 z) ∧ (-1 ≤ z ∧ z ≤ 10001) ∧ Rdr w' a A m (p + 1) ∧ w.grownBy w' (some a) := by
  have hlt : a < w.heap.size := World.block_lt_of_cell? w ⟨a, 1, none⟩ h.pos
  have HR := Lib.hid h
  clear h
  go_enter Try.func23, Try.ntmps23
  go_wp2_with fail
  refine (one_any [100, 200, 300, 50, 0, 500, 10000, 10001, -1, 150, 320] (by simp) (by simp) w.heap.size 11 a A m p (by omega) hm _ (HR.out.new (by (repeat (first | exact New.refl _ | assumption | refine New.alloc ?_ _ | refine New.drew ?_ | refine New.drewN ?_ _ | refine New.setCell ?_ (by first | omega | (simp; omega) | (simp; done)) _ | refine New.trans ?_ (by assumption))))) (by omega) (by simp) (lit_at [100, 200, 300, 50, 0, 500, 10000, 10001, -1, 150, 320] _ _ _ rfl)).mono ?_
  rintro e w3 ⟨x, rfl, hx, R3, G3⟩
  have xb : -1 ≤ x ∧ x ≤ 10001 := by simp at hx; omega
  replace R3 := Lib.hid R3; replace G3 := Lib.hid (only_trans (only_alloc only_refl _) G3)
  clear hx
  go_wp2
  go_ret
  exact ⟨x, rfl, xb, R3.out, G3.out⟩
end Go.Proofs.Ytigniaebokknmaa
