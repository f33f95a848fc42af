/- The exported functions on rectangles, of the program and of the reference: hulls. No condition. -/
import Derived.Test.YtnipnemhbelcaaaHull
import Derived.Test.YtnipnemhbelcaaaRectC
namespace Go.Proofs.Ytnipnemhbelcaaa
open Go.RowKit

set_option maxHeartbeats 1000000 in
theorem Hull_a (ax ay aw ah bx by' bw bh : Int) (w : World) (ha : vR ax ay aw ah = false) :
    Calls Try.prog 14 #[rc ax ay aw ah, rc bx by' bw bh] w fun e w' => e = .returned (.tuple #[rc 0 0 0 0, .bool false]) ∧ New w w' := by
  go_enter Try.func14, Try.ntmps14
  go_wp2_with (first
    | (go_at_call 27; refine (valid_any _ _ _ _ _).mono ?_; rintro e w1 ⟨rfl, hb1⟩; (first | replace hN := hN.trans hb1 | replace hN := (hN.alloc _).trans hb1 | have hN := hb1); have hc1 := hN.cells; have hf1 := hN.marks; have hd1 := hb1.cells; have he1 := hb1.marks; have z0 : w.heap.size < w1.heap.size := (by have := hN.le; first | omega | (simp at this; omega)); have z1 : w.heap.size + 1 < w1.heap.size := (by have := hN.le; first | omega | (simp at this; omega)); have z2 : w.heap.size + 1 + 1 < w1.heap.size := (by have := hN.le; first | omega | (simp at this; omega))))
  refine bodyPost_ret (v := .tuple #[rc 0 0 0 0, .bool false]) (by simp [results, Try.results14, go_sem, *]) rfl ⟨rfl, by (repeat (first | exact New.refl _ | assumption | refine New.alloc ?_ _ | refine New.drew ?_ | refine New.drewN ?_ _ | refine New.setCell ?_ (by first | omega | (simp; omega) | (simp; done)) _ | refine New.trans ?_ (by assumption)))⟩

set_option maxHeartbeats 1000000 in
theorem Hull_b (ax ay aw ah bx by' bw bh : Int) (w : World) (ha : vR ax ay aw ah = true) (hb : vR bx by' bw bh = false) :
    Calls Try.prog 14 #[rc ax ay aw ah, rc bx by' bw bh] w fun e w' => e = .returned (.tuple #[rc 0 0 0 0, .bool false]) ∧ New w w' := by
  go_enter Try.func14, Try.ntmps14
  go_wp2_with (first
    | (go_at_call 27; refine (valid_any _ _ _ _ _).mono ?_; rintro e w1 ⟨rfl, hb1⟩; (first | replace hN := hN.trans hb1 | replace hN := (hN.alloc _).trans hb1 | have hN := hb1); have hc1 := hN.cells; have hf1 := hN.marks; have hd1 := hb1.cells; have he1 := hb1.marks; have z0 : w.heap.size < w1.heap.size := (by have := hN.le; first | omega | (simp at this; omega)); have z1 : w.heap.size + 1 < w1.heap.size := (by have := hN.le; first | omega | (simp at this; omega)); have z2 : w.heap.size + 1 + 1 < w1.heap.size := (by have := hN.le; first | omega | (simp at this; omega))))
  refine bodyPost_ret (v := .tuple #[rc 0 0 0 0, .bool false]) (by simp [results, Try.results14, go_sem, *]) rfl ⟨rfl, by (repeat (first | exact New.refl _ | assumption | refine New.alloc ?_ _ | refine New.drew ?_ | refine New.drewN ?_ _ | refine New.setCell ?_ (by first | omega | (simp; omega) | (simp; done)) _ | refine New.trans ?_ (by assumption)))⟩

set_option maxHeartbeats 1000000 in
theorem Hull_c (ax ay aw ah bx by' bw bh : Int) (w : World) (ha : vR ax ay aw ah = true) (hb : vR bx by' bw bh = true) (hc : vR (mn ax bx) (mn ay by') (uW ax aw bx bw) (uW ay ah by' bh) = false) :
    Calls Try.prog 14 #[rc ax ay aw ah, rc bx by' bw bh] w fun e w' => e = .returned (.tuple #[rc 0 0 0 0, .bool false]) ∧ New w w' := by
  have HA := Lib.hid ha; have HB := Lib.hid hb
  have HC := Lib.hid hc
  go_enter Try.func14, Try.ntmps14
  go_wp2_with (first
    | (go_at_call 27; refine (valid_any _ _ _ _ _).mono ?_; rintro e w1 ⟨rfl, hb1⟩; (first | replace hN := hN.trans hb1 | replace hN := (hN.alloc _).trans hb1 | have hN := hb1); have hc1 := hN.cells; have hf1 := hN.marks; have hd1 := hb1.cells; have he1 := hb1.marks; have z0 : w.heap.size < w1.heap.size := (by have := hN.le; first | omega | (simp at this; omega)); have z1 : w.heap.size + 1 < w1.heap.size := (by have := hN.le; first | omega | (simp at this; omega)); have z2 : w.heap.size + 1 + 1 < w1.heap.size := (by have := hN.le; first | omega | (simp at this; omega)))
    | (go_at_call 32; refine (hull_any _ _ _ _ _ _ _ _ _ HA.out HB.out).mono ?_; rintro e w2 ⟨rfl, hb2⟩; (first | replace hN := hN.trans hb2 | replace hN := (hN.alloc _).trans hb2 | have hN := hb2); have hc2 := hN.cells; have hf2 := hN.marks; have hd2 := hb2.cells; have he2 := hb2.marks; have z0 : w.heap.size < w2.heap.size := (by have := hN.le; first | omega | (simp at this; omega)); have z1 : w.heap.size + 1 < w2.heap.size := (by have := hN.le; first | omega | (simp at this; omega)); have z2 : w.heap.size + 1 + 1 < w2.heap.size := (by have := hN.le; first | omega | (simp at this; omega)))
    | (go_at_call 33; refine (ifValid_no _ _ _ _ _ HC.out).mono ?_; rintro e w3 ⟨rfl, hb3⟩; (first | replace hN := hN.trans hb3 | replace hN := (hN.alloc _).trans hb3 | have hN := hb3); have hc3 := hN.cells; have hf3 := hN.marks; have hd3 := hb3.cells; have he3 := hb3.marks; have z0 : w.heap.size < w3.heap.size := (by have := hN.le; first | omega | (simp at this; omega)); have z1 : w.heap.size + 1 < w3.heap.size := (by have := hN.le; first | omega | (simp at this; omega)); have z2 : w.heap.size + 1 + 1 < w3.heap.size := (by have := hN.le; first | omega | (simp at this; omega))))
  refine bodyPost_ret (v := .tuple #[rc 0 0 0 0, .bool false]) (by simp [results, Try.results14, go_sem, *]) rfl ⟨rfl, by (repeat (first | exact New.refl _ | assumption | refine New.alloc ?_ _ | refine New.drew ?_ | refine New.drewN ?_ _ | refine New.setCell ?_ (by first | omega | (simp; omega) | (simp; done)) _ | refine New.trans ?_ (by assumption)))⟩

set_option maxHeartbeats 1000000 in
theorem Hull_yes (ax ay aw ah bx by' bw bh : Int) (w : World) (ha : vR ax ay aw ah = true) (hb : vR bx by' bw bh = true) (hc : vR (mn ax bx) (mn ay by') (uW ax aw bx bw) (uW ay ah by' bh) = true) :
    Calls Try.prog 14 #[rc ax ay aw ah, rc bx by' bw bh] w fun e w' => e = .returned (.tuple #[rc (mn ax bx) (mn ay by') (uW ax aw bx bw) (uW ay ah by' bh), .bool true]) ∧ New w w' := by
  have HA := Lib.hid ha; have HB := Lib.hid hb
  have HC := Lib.hid hc
  go_enter Try.func14, Try.ntmps14
  go_wp2_with (first
    | (go_at_call 27; refine (valid_any _ _ _ _ _).mono ?_; rintro e w1 ⟨rfl, hb1⟩; (first | replace hN := hN.trans hb1 | replace hN := (hN.alloc _).trans hb1 | have hN := hb1); have hc1 := hN.cells; have hf1 := hN.marks; have hd1 := hb1.cells; have he1 := hb1.marks; have z0 : w.heap.size < w1.heap.size := (by have := hN.le; first | omega | (simp at this; omega)); have z1 : w.heap.size + 1 < w1.heap.size := (by have := hN.le; first | omega | (simp at this; omega)); have z2 : w.heap.size + 1 + 1 < w1.heap.size := (by have := hN.le; first | omega | (simp at this; omega)))
    | (go_at_call 32; refine (hull_any _ _ _ _ _ _ _ _ _ HA.out HB.out).mono ?_; rintro e w2 ⟨rfl, hb2⟩; (first | replace hN := hN.trans hb2 | replace hN := (hN.alloc _).trans hb2 | have hN := hb2); have hc2 := hN.cells; have hf2 := hN.marks; have hd2 := hb2.cells; have he2 := hb2.marks; have z0 : w.heap.size < w2.heap.size := (by have := hN.le; first | omega | (simp at this; omega)); have z1 : w.heap.size + 1 < w2.heap.size := (by have := hN.le; first | omega | (simp at this; omega)); have z2 : w.heap.size + 1 + 1 < w2.heap.size := (by have := hN.le; first | omega | (simp at this; omega)))
    | (go_at_call 33; refine (ifValid_yes _ _ _ _ _ HC.out).mono ?_; rintro e w3 ⟨rfl, hb3⟩; (first | replace hN := hN.trans hb3 | replace hN := (hN.alloc _).trans hb3 | have hN := hb3); have hc3 := hN.cells; have hf3 := hN.marks; have hd3 := hb3.cells; have he3 := hb3.marks; have z0 : w.heap.size < w3.heap.size := (by have := hN.le; first | omega | (simp at this; omega)); have z1 : w.heap.size + 1 < w3.heap.size := (by have := hN.le; first | omega | (simp at this; omega)); have z2 : w.heap.size + 1 + 1 < w3.heap.size := (by have := hN.le; first | omega | (simp at this; omega))))
  refine bodyPost_ret (v := .tuple #[rc (mn ax bx) (mn ay by') (uW ax aw bx bw) (uW ay ah by' bh), .bool true]) (by simp [results, Try.results14, go_sem, *]) rfl ⟨rfl, by (repeat (first | exact New.refl _ | assumption | refine New.alloc ?_ _ | refine New.drew ?_ | refine New.drewN ?_ _ | refine New.setCell ?_ (by first | omega | (simp; omega) | (simp; done)) _ | refine New.trans ?_ (by assumption)))⟩

set_option maxHeartbeats 1000000 in
theorem SHull_a (ax ay aw ah bx by' bw bh : Int) (w : World) (ha : vR ax ay aw ah = false) :
    Calls Try.prog 15 #[rc ax ay aw ah, rc bx by' bw bh] w fun e w' => e = .returned (.tuple #[rc 0 0 0 0, .bool false]) ∧ New w w' := by
  go_enter Try.func15, Try.ntmps15
  go_wp2_with (first
    | (go_at_call 29; refine (validRect_any _ _ _ _ _).mono ?_; rintro e w1 ⟨rfl, hb1⟩; (first | replace hN := hN.trans hb1 | replace hN := (hN.alloc _).trans hb1 | have hN := hb1); have hc1 := hN.cells; have hf1 := hN.marks; have hd1 := hb1.cells; have he1 := hb1.marks; have z0 : w.heap.size < w1.heap.size := (by have := hN.le; first | omega | (simp at this; omega)); have z1 : w.heap.size + 1 < w1.heap.size := (by have := hN.le; first | omega | (simp at this; omega)); have z2 : w.heap.size + 1 + 1 < w1.heap.size := (by have := hN.le; first | omega | (simp at this; omega))))
  refine bodyPost_ret (v := .tuple #[rc 0 0 0 0, .bool false]) (by simp [results, Try.results15, go_sem, *]) rfl ⟨rfl, by (repeat (first | exact New.refl _ | assumption | refine New.alloc ?_ _ | refine New.drew ?_ | refine New.drewN ?_ _ | refine New.setCell ?_ (by first | omega | (simp; omega) | (simp; done)) _ | refine New.trans ?_ (by assumption)))⟩

set_option maxHeartbeats 1000000 in
theorem SHull_b (ax ay aw ah bx by' bw bh : Int) (w : World) (ha : vR ax ay aw ah = true) (hb : vR bx by' bw bh = false) :
    Calls Try.prog 15 #[rc ax ay aw ah, rc bx by' bw bh] w fun e w' => e = .returned (.tuple #[rc 0 0 0 0, .bool false]) ∧ New w w' := by
  go_enter Try.func15, Try.ntmps15
  go_wp2_with (first
    | (go_at_call 29; refine (validRect_any _ _ _ _ _).mono ?_; rintro e w1 ⟨rfl, hb1⟩; (first | replace hN := hN.trans hb1 | replace hN := (hN.alloc _).trans hb1 | have hN := hb1); have hc1 := hN.cells; have hf1 := hN.marks; have hd1 := hb1.cells; have he1 := hb1.marks; have z0 : w.heap.size < w1.heap.size := (by have := hN.le; first | omega | (simp at this; omega)); have z1 : w.heap.size + 1 < w1.heap.size := (by have := hN.le; first | omega | (simp at this; omega)); have z2 : w.heap.size + 1 + 1 < w1.heap.size := (by have := hN.le; first | omega | (simp at this; omega))))
  refine bodyPost_ret (v := .tuple #[rc 0 0 0 0, .bool false]) (by simp [results, Try.results15, go_sem, *]) rfl ⟨rfl, by (repeat (first | exact New.refl _ | assumption | refine New.alloc ?_ _ | refine New.drew ?_ | refine New.drewN ?_ _ | refine New.setCell ?_ (by first | omega | (simp; omega) | (simp; done)) _ | refine New.trans ?_ (by assumption)))⟩

set_option maxHeartbeats 1000000 in
theorem SHull_c (ax ay aw ah bx by' bw bh : Int) (w : World) (ha : vR ax ay aw ah = true) (hb : vR bx by' bw bh = true) (hc : vR (mn ax bx) (mn ay by') (uW ax aw bx bw) (uW ay ah by' bh) = false) :
    Calls Try.prog 15 #[rc ax ay aw ah, rc bx by' bw bh] w fun e w' => e = .returned (.tuple #[rc 0 0 0 0, .bool false]) ∧ New w w' := by
  have HA := Lib.hid ha; have HB := Lib.hid hb
  have HC := Lib.hid hc
  go_enter Try.func15, Try.ntmps15
  go_wp2_with (first
    | (go_at_call 29; refine (validRect_any _ _ _ _ _).mono ?_; rintro e w1 ⟨rfl, hb1⟩; (first | replace hN := hN.trans hb1 | replace hN := (hN.alloc _).trans hb1 | have hN := hb1); have hc1 := hN.cells; have hf1 := hN.marks; have hd1 := hb1.cells; have he1 := hb1.marks; have z0 : w.heap.size < w1.heap.size := (by have := hN.le; first | omega | (simp at this; omega)); have z1 : w.heap.size + 1 < w1.heap.size := (by have := hN.le; first | omega | (simp at this; omega)); have z2 : w.heap.size + 1 + 1 < w1.heap.size := (by have := hN.le; first | omega | (simp at this; omega)))
    | (go_at_call 34; refine (shull_any _ _ _ _ _ _ _ _ _ HA.out HB.out).mono ?_; rintro e w2 ⟨rfl, hb2⟩; (first | replace hN := hN.trans hb2 | replace hN := (hN.alloc _).trans hb2 | have hN := hb2); have hc2 := hN.cells; have hf2 := hN.marks; have hd2 := hb2.cells; have he2 := hb2.marks; have z0 : w.heap.size < w2.heap.size := (by have := hN.le; first | omega | (simp at this; omega)); have z1 : w.heap.size + 1 < w2.heap.size := (by have := hN.le; first | omega | (simp at this; omega)); have z2 : w.heap.size + 1 + 1 < w2.heap.size := (by have := hN.le; first | omega | (simp at this; omega))))
  refine bodyPost_ret (v := .tuple #[rc 0 0 0 0, .bool false]) (by simp [results, Try.results15, go_sem, *]) rfl ⟨rfl, by (repeat (first | exact New.refl _ | assumption | refine New.alloc ?_ _ | refine New.drew ?_ | refine New.drewN ?_ _ | refine New.setCell ?_ (by first | omega | (simp; omega) | (simp; done)) _ | refine New.trans ?_ (by assumption)))⟩

set_option maxHeartbeats 1000000 in
theorem SHull_yes (ax ay aw ah bx by' bw bh : Int) (w : World) (ha : vR ax ay aw ah = true) (hb : vR bx by' bw bh = true) (hc : vR (mn ax bx) (mn ay by') (uW ax aw bx bw) (uW ay ah by' bh) = true) :
    Calls Try.prog 15 #[rc ax ay aw ah, rc bx by' bw bh] w fun e w' => e = .returned (.tuple #[rc (mn ax bx) (mn ay by') (uW ax aw bx bw) (uW ay ah by' bh), .bool true]) ∧ New w w' := by
  have HA := Lib.hid ha; have HB := Lib.hid hb
  have HC := Lib.hid hc
  go_enter Try.func15, Try.ntmps15
  go_wp2_with (first
    | (go_at_call 29; refine (validRect_any _ _ _ _ _).mono ?_; rintro e w1 ⟨rfl, hb1⟩; (first | replace hN := hN.trans hb1 | replace hN := (hN.alloc _).trans hb1 | have hN := hb1); have hc1 := hN.cells; have hf1 := hN.marks; have hd1 := hb1.cells; have he1 := hb1.marks; have z0 : w.heap.size < w1.heap.size := (by have := hN.le; first | omega | (simp at this; omega)); have z1 : w.heap.size + 1 < w1.heap.size := (by have := hN.le; first | omega | (simp at this; omega)); have z2 : w.heap.size + 1 + 1 < w1.heap.size := (by have := hN.le; first | omega | (simp at this; omega)))
    | (go_at_call 34; refine (shull_any _ _ _ _ _ _ _ _ _ HA.out HB.out).mono ?_; rintro e w2 ⟨rfl, hb2⟩; (first | replace hN := hN.trans hb2 | replace hN := (hN.alloc _).trans hb2 | have hN := hb2); have hc2 := hN.cells; have hf2 := hN.marks; have hd2 := hb2.cells; have he2 := hb2.marks; have z0 : w.heap.size < w2.heap.size := (by have := hN.le; first | omega | (simp at this; omega)); have z1 : w.heap.size + 1 < w2.heap.size := (by have := hN.le; first | omega | (simp at this; omega)); have z2 : w.heap.size + 1 + 1 < w2.heap.size := (by have := hN.le; first | omega | (simp at this; omega))))
  refine bodyPost_ret (v := .tuple #[rc (mn ax bx) (mn ay by') (uW ax aw bx bw) (uW ay ah by' bh), .bool true]) (by simp [results, Try.results15, go_sem, *]) rfl ⟨rfl, by (repeat (first | exact New.refl _ | assumption | refine New.alloc ?_ _ | refine New.drew ?_ | refine New.drewN ?_ _ | refine New.setCell ?_ (by first | omega | (simp; omega) | (simp; done)) _ | refine New.trans ?_ (by assumption)))⟩

end Go.Proofs.Ytnipnemhbelcaaa
