/- The drawn arguments of OffsetsOf: a short list of small numbers, a space, a gap, a way to justify. Condition: the code can be read. -/
import Derived.Test.YtpkajdnndognnaaSpoil
namespace Go.Proofs.Ytpkajdnndognnaa
open Go.RowKit

/-- What a drawn number leaves. -/
def DrawnI (s : Nat) (w : World) (a : Nat) (A : Option Addr) (m p : Nat) (e : Ending) (w' : World) : Prop :=
  ∃ z : Int, e = .returned (.int .i64 z) ∧ (-1000000000 ≤ z ∧ z ≤ 1000000000) ∧ (∃ q, q ≤ p + s ∧ Rdr w' a A m q) ∧ w.grownBy w' (some a)
set_option maxHeartbeats 1000000 in
theorem someGap_any (a : Nat) (A : Option Addr) (m p : Nat) (hp : p ≤ 900000) (hm : m ≤ 2000) (w : World) (h : Rdr w a A m p) :
    Calls Try.prog 66 #[.pointer (some ⟨a, 0, none⟩)] w (DrawnI 1 w a A m p) := by
  have hlt : a < w.heap.size := World.block_lt_of_cell? w ⟨a, 1, none⟩ h.pos
  have HR := Lib.hid h
  clear h
  go_enter Try.func66, Try.ntmps66
  go_wp2_with fail
  refine (one_any [0, 1, 5, 10, 50, 51, -1, 2] (by simp) (by simp) w.heap.size 8 a A m p (by omega) hm _ (HR.out.new (by (repeat (first | exact New.refl _ | assumption | refine New.alloc ?_ _ | refine New.drew ?_ | refine New.drewN ?_ _ | refine New.setCell ?_ (by first | omega | (simp; omega) | (simp; done)) _ | refine New.trans ?_ (by assumption))))) (by omega) (by simp) (lit_cells [0, 1, 5, 10, 50, 51, -1, 2] _ _)).mono ?_
  rintro e w3 ⟨x, rfl, hx, R3, G3⟩
  have xb : -1000000000 ≤ x ∧ x ≤ 1000000000 := one_sml hx (by simp)
  replace R3 := Lib.hid R3; replace G3 := Lib.hid (only_trans (only_alloc only_refl _) G3)
  clear hx
  go_wp2
  go_ret
  exact ⟨x, rfl, xb, ⟨p + 1, by omega, R3.out⟩, G3.out⟩
/-- What drawing a list and three numbers leaves. -/
def DrawnLNNN (N : Nat) (w : World) (e : Ending) (w' : World) : Prop :=
  ∃ (B : Option Addr) (n c : Nat) (ys : List Int) (x y z : Int), e = .returned (.tuple #[.slice B n c, .int .i64 x, .int .i64 y, .int .i64 z]) ∧ Ints w' B n ys ∧ n ≤ N ∧ Sml ys ∧ (-1000000000 ≤ x ∧ x ≤ 1000000000) ∧ (-1000000000 ≤ y ∧ y ≤ 1000000000) ∧ (-1000000000 ≤ z ∧ z ≤ 1000000000) ∧ New w w'
end Go.Proofs.Ytpkajdnndognnaa
