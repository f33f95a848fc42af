/- The drawn arguments of OffsetsOf: a short list of small numbers, a space, a gap, a way to justify. Condition: the code can be read. -/
import Derived.Test.YtnipnemhbelcaaaSpoil
namespace Go.Proofs.Ytnipnemhbelcaaa
open Go.RowKit

/-- What a drawn number leaves. -/
def DrawnI (s : Nat) (w : World) (a : Nat) (A : Option Addr) (m p : Nat) (e : Ending) (w' : World) : Prop :=
  ∃ z : Int, e = .returned (.int .i64 z) ∧ (-1000000000 ≤ z ∧ z ≤ 1000000000) ∧ (∃ q, q ≤ p + s ∧ Rdr w' a A m q) ∧ w.grownBy w' (some a)
set_option maxHeartbeats 1000000 in
theorem someSpace_any (a : Nat) (A : Option Addr) (m p : Nat) (hp : p ≤ 900000) (hm : m ≤ 2000) (w : World) (h : Rdr w a A m p) :
    Calls Try.prog 36 #[.pointer (some ⟨a, 0, none⟩)] w (DrawnI 2 w a A m p) := by
  have hlt : a < w.heap.size := World.block_lt_of_cell? w ⟨a, 1, none⟩ h.pos
  have HR := Lib.hid h
  clear h
  go_enter Try.func36, Try.ntmps36
  go_wp2_with fail
  refine (pick_any 250 a A m p (by omega) hm _ HR.out).mono ?_
  rintro e w2 ⟨k, rfl, k0, k1, R2, G2⟩
  have k1 := k1 (by omega)
  have z2 := G2.size
  replace R2 := Lib.hid R2; replace G2 := Lib.hid G2
  go_wp2_with fail
  refine (one_any [0, 100, 300, 1000, 50, 200000, 200001, -1, 5 * k, 700] (by simp) (by simp) w2.heap.size 10 a A m (p + 1) (by omega) hm _ (R2.out.new (by (repeat (first | exact New.refl _ | assumption | refine New.alloc ?_ _ | refine New.drew ?_ | refine New.drewN ?_ _ | refine New.setCell ?_ (by first | omega | (simp; omega) | (simp; done)) _ | refine New.trans ?_ (by assumption))))) (by omega) (by simp) (lit_cells [0, 100, 300, 1000, 50, 200000, 200001, -1, 5 * k, 700] _ _)).mono ?_
  rintro e w3 ⟨x, rfl, hx, R3, G3⟩
  have xb : -1000000000 ≤ x ∧ x ≤ 1000000000 := one_sml hx (by simp; omega)
  replace R3 := Lib.hid R3; replace G3 := Lib.hid (only_trans (only_alloc G2.out _) G3)
  clear hx
  go_wp2
  go_ret
  exact ⟨x, rfl, xb, ⟨p + 1 + 1, by omega, R3.out⟩, G3.out⟩
/-- What drawing a list and three numbers leaves. -/
def DrawnLNNN (N : Nat) (w : World) (e : Ending) (w' : World) : Prop :=
  ∃ (B : Option Addr) (n c : Nat) (ys : List Int) (x y z : Int), e = .returned (.tuple #[.slice B n c, .int .i64 x, .int .i64 y, .int .i64 z]) ∧ Ints w' B n ys ∧ n ≤ N ∧ Sml ys ∧ (-1000000000 ≤ x ∧ x ≤ 1000000000) ∧ (-1000000000 ≤ y ∧ y ≤ 1000000000) ∧ (-1000000000 ≤ z ∧ z ≤ 1000000000) ∧ New w w'
end Go.Proofs.Ytnipnemhbelcaaa
