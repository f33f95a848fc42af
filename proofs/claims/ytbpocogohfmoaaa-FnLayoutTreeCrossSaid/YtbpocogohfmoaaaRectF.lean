/- The exported functions on rectangles, of the program and of the reference: insets. No condition. -/
import Derived.Test.YtbpocogohfmoaaaZR
namespace Go.Proofs.Ytbpocogohfmoaaa
open Go.RowKit

/-- An edge is in its range. -/
def eB (e : Int) : Bool := decide (0 ≤ e ∧ e ≤ 50)
theorem eB_iff {e : Int} : eB e = true ↔ 0 ≤ e ∧ e ≤ 50 := by unfold eB; simp
theorem within_e (n : Int) (w : World) : Calls Try.prog 49 #[.int .i64 n, .int .i64 0, .int .i64 50] w fun e w' => e = .returned (.bool (eB n)) ∧ w = w' := within_any n 0 50 w
theorem inRange_e (n : Int) (w : World) : Calls Try.prog 45 #[.int .i64 n, .int .i64 0, .int .i64 50] w fun e w' => e = .returned (.bool (eB n)) ∧ w = w' := inRange_any n 0 50 w
theorem inset_e (x y ww h ed : Int) (w : World) (hv : vR x y ww h = true) (he : eB ed = true) :
    Calls Try.prog 53 #[rc x y ww h, .int .i64 ed] w fun e w' => e = .returned (rc (nL x ww ed) (nL y h ed) (nW ww ed) (nW h ed)) ∧ New w w' := inset_any x y ww h ed w hv (eB_iff.1 he).1 (eB_iff.1 he).2
theorem sinset_e (x y ww h ed : Int) (w : World) (hv : vR x y ww h = true) (he : eB ed = true) :
    Calls Try.prog 52 #[rc x y ww h, .int .i64 ed] w fun e w' => e = .returned (rc (nL x ww ed) (nL y h ed) (nW ww ed) (nW h ed)) ∧ New w w' := sinset_any x y ww h ed w hv (eB_iff.1 he).1 (eB_iff.1 he).2

set_option maxHeartbeats 1000000 in
theorem Inset_a (x y ww h ed : Int) (w : World) (ha : vR x y ww h = false) :
    Calls Try.prog 41 #[rc x y ww h, .int .i64 ed] w fun e w' => e = .returned (.tuple #[rc 0 0 0 0, .bool false]) ∧ New w w' := by
  go_enter Try.func41, Try.ntmps41
  go_wp2_with (first
    | (go_at_call 63; refine (valid_any _ _ _ _ _).mono ?_; rintro e w1 ⟨rfl, hb1⟩; (first | replace hN := hN.trans hb1 | replace hN := (hN.alloc _).trans hb1 | have hN := hb1); have hc1 := hN.cells; have hf1 := hN.marks; have hd1 := hb1.cells; have he1 := hb1.marks; have z0 : w.heap.size < w1.heap.size := (by have := hN.le; first | omega | (simp at this; omega)); have z1 : w.heap.size + 1 < w1.heap.size := (by have := hN.le; first | omega | (simp at this; omega))))
  refine bodyPost_ret (v := .tuple #[rc 0 0 0 0, .bool false]) (by simp [results, Try.results41, go_sem, *]) rfl ⟨rfl, by (repeat (first | exact New.refl _ | assumption | refine New.alloc ?_ _ | refine New.drew ?_ | refine New.drewN ?_ _ | refine New.setCell ?_ (by first | omega | (simp; omega) | (simp; done)) _ | refine New.trans ?_ (by assumption)))⟩

set_option maxHeartbeats 1000000 in
theorem Inset_b (x y ww h ed : Int) (w : World) (ha : vR x y ww h = true) (he : eB ed = false) :
    Calls Try.prog 41 #[rc x y ww h, .int .i64 ed] w fun e w' => e = .returned (.tuple #[rc 0 0 0 0, .bool false]) ∧ New w w' := by
  go_enter Try.func41, Try.ntmps41
  go_wp2_with (first
    | (go_at_call 63; refine (valid_any _ _ _ _ _).mono ?_; rintro e w1 ⟨rfl, hb1⟩; (first | replace hN := hN.trans hb1 | replace hN := (hN.alloc _).trans hb1 | have hN := hb1); have hc1 := hN.cells; have hf1 := hN.marks; have hd1 := hb1.cells; have he1 := hb1.marks; have z0 : w.heap.size < w1.heap.size := (by have := hN.le; first | omega | (simp at this; omega)); have z1 : w.heap.size + 1 < w1.heap.size := (by have := hN.le; first | omega | (simp at this; omega)))
    | (go_at_call 49; refine (within_e _ _).mono ?_; rintro e w' ⟨rfl, rfl⟩))
  refine bodyPost_ret (v := .tuple #[rc 0 0 0 0, .bool false]) (by simp [results, Try.results41, go_sem, *]) rfl ⟨rfl, by (repeat (first | exact New.refl _ | assumption | refine New.alloc ?_ _ | refine New.drew ?_ | refine New.drewN ?_ _ | refine New.setCell ?_ (by first | omega | (simp; omega) | (simp; done)) _ | refine New.trans ?_ (by assumption)))⟩

set_option maxHeartbeats 1000000 in
theorem Inset_c (x y ww h ed : Int) (w : World) (ha : vR x y ww h = true) (he : eB ed = true) (hc : vR (nL x ww ed) (nL y h ed) (nW ww ed) (nW h ed) = false) :
    Calls Try.prog 41 #[rc x y ww h, .int .i64 ed] w fun e w' => e = .returned (.tuple #[rc 0 0 0 0, .bool false]) ∧ New w w' := by
  have HA := Lib.hid ha; have HE := Lib.hid he
  have HC := Lib.hid hc
  go_enter Try.func41, Try.ntmps41
  go_wp2_with (first
    | (go_at_call 63; refine (valid_any _ _ _ _ _).mono ?_; rintro e w1 ⟨rfl, hb1⟩; (first | replace hN := hN.trans hb1 | replace hN := (hN.alloc _).trans hb1 | have hN := hb1); have hc1 := hN.cells; have hf1 := hN.marks; have hd1 := hb1.cells; have he1 := hb1.marks; have z0 : w.heap.size < w1.heap.size := (by have := hN.le; first | omega | (simp at this; omega)); have z1 : w.heap.size + 1 < w1.heap.size := (by have := hN.le; first | omega | (simp at this; omega)))
    | (go_at_call 49; refine (within_e _ _).mono ?_; rintro e w' ⟨rfl, rfl⟩)
    | (go_at_call 53; refine (inset_e _ _ _ _ _ _ HA.out HE.out).mono ?_; rintro e w2 ⟨rfl, hb2⟩; (first | replace hN := hN.trans hb2 | replace hN := (hN.alloc _).trans hb2 | have hN := hb2); have hc2 := hN.cells; have hf2 := hN.marks; have hd2 := hb2.cells; have he2 := hb2.marks; have z0 : w.heap.size < w2.heap.size := (by have := hN.le; first | omega | (simp at this; omega)); have z1 : w.heap.size + 1 < w2.heap.size := (by have := hN.le; first | omega | (simp at this; omega)))
    | (go_at_call 67; refine (ifValid_no _ _ _ _ _ HC.out).mono ?_; rintro e w3 ⟨rfl, hb3⟩; (first | replace hN := hN.trans hb3 | replace hN := (hN.alloc _).trans hb3 | have hN := hb3); have hc3 := hN.cells; have hf3 := hN.marks; have hd3 := hb3.cells; have he3 := hb3.marks; have z0 : w.heap.size < w3.heap.size := (by have := hN.le; first | omega | (simp at this; omega)); have z1 : w.heap.size + 1 < w3.heap.size := (by have := hN.le; first | omega | (simp at this; omega))))
  refine bodyPost_ret (v := .tuple #[rc 0 0 0 0, .bool false]) (by simp [results, Try.results41, go_sem, *]) rfl ⟨rfl, by (repeat (first | exact New.refl _ | assumption | refine New.alloc ?_ _ | refine New.drew ?_ | refine New.drewN ?_ _ | refine New.setCell ?_ (by first | omega | (simp; omega) | (simp; done)) _ | refine New.trans ?_ (by assumption)))⟩

set_option maxHeartbeats 1000000 in
theorem Inset_yes (x y ww h ed : Int) (w : World) (ha : vR x y ww h = true) (he : eB ed = true) (hc : vR (nL x ww ed) (nL y h ed) (nW ww ed) (nW h ed) = true) :
    Calls Try.prog 41 #[rc x y ww h, .int .i64 ed] w fun e w' => e = .returned (.tuple #[rc (nL x ww ed) (nL y h ed) (nW ww ed) (nW h ed), .bool true]) ∧ New w w' := by
  have HA := Lib.hid ha; have HE := Lib.hid he
  have HC := Lib.hid hc
  go_enter Try.func41, Try.ntmps41
  go_wp2_with (first
    | (go_at_call 63; refine (valid_any _ _ _ _ _).mono ?_; rintro e w1 ⟨rfl, hb1⟩; (first | replace hN := hN.trans hb1 | replace hN := (hN.alloc _).trans hb1 | have hN := hb1); have hc1 := hN.cells; have hf1 := hN.marks; have hd1 := hb1.cells; have he1 := hb1.marks; have z0 : w.heap.size < w1.heap.size := (by have := hN.le; first | omega | (simp at this; omega)); have z1 : w.heap.size + 1 < w1.heap.size := (by have := hN.le; first | omega | (simp at this; omega)))
    | (go_at_call 49; refine (within_e _ _).mono ?_; rintro e w' ⟨rfl, rfl⟩)
    | (go_at_call 53; refine (inset_e _ _ _ _ _ _ HA.out HE.out).mono ?_; rintro e w2 ⟨rfl, hb2⟩; (first | replace hN := hN.trans hb2 | replace hN := (hN.alloc _).trans hb2 | have hN := hb2); have hc2 := hN.cells; have hf2 := hN.marks; have hd2 := hb2.cells; have he2 := hb2.marks; have z0 : w.heap.size < w2.heap.size := (by have := hN.le; first | omega | (simp at this; omega)); have z1 : w.heap.size + 1 < w2.heap.size := (by have := hN.le; first | omega | (simp at this; omega)))
    | (go_at_call 67; refine (ifValid_yes _ _ _ _ _ HC.out).mono ?_; rintro e w3 ⟨rfl, hb3⟩; (first | replace hN := hN.trans hb3 | replace hN := (hN.alloc _).trans hb3 | have hN := hb3); have hc3 := hN.cells; have hf3 := hN.marks; have hd3 := hb3.cells; have he3 := hb3.marks; have z0 : w.heap.size < w3.heap.size := (by have := hN.le; first | omega | (simp at this; omega)); have z1 : w.heap.size + 1 < w3.heap.size := (by have := hN.le; first | omega | (simp at this; omega))))
  refine bodyPost_ret (v := .tuple #[rc (nL x ww ed) (nL y h ed) (nW ww ed) (nW h ed), .bool true]) (by simp [results, Try.results41, go_sem, *]) rfl ⟨rfl, by (repeat (first | exact New.refl _ | assumption | refine New.alloc ?_ _ | refine New.drew ?_ | refine New.drewN ?_ _ | refine New.setCell ?_ (by first | omega | (simp; omega) | (simp; done)) _ | refine New.trans ?_ (by assumption)))⟩

end Go.Proofs.Ytbpocogohfmoaaa
