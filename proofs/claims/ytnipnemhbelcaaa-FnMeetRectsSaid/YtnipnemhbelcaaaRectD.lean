/- The exported functions on rectangles, of the program and of the reference: common parts. No condition. -/
import Derived.Test.YtnipnemhbelcaaaMeet
import Derived.Test.YtnipnemhbelcaaaRectC
namespace Go.Proofs.Ytnipnemhbelcaaa
open Go.RowKit

set_option maxHeartbeats 1000000 in
theorem Meet_a (ax ay aw ah bx by' bw bh : Int) (w : World) (ha : vR ax ay aw ah = false) :
    Calls Try.prog 9 #[rc ax ay aw ah, rc bx by' bw bh] w fun e w' => e = .returned (.tuple #[rc 0 0 0 0, .bool false]) ∧ New w w' := by
  go_enter Try.func9, Try.ntmps9
  go_wp2_with (first
    | (go_at_call 27; refine (valid_any _ _ _ _ _).mono ?_; rintro e w1 ⟨rfl, hb1⟩; (first | replace hN := hN.trans hb1 | replace hN := (hN.alloc _).trans hb1 | have hN := hb1); have hc1 := hN.cells; have hf1 := hN.marks; have hd1 := hb1.cells; have he1 := hb1.marks; have z0 : w.heap.size < w1.heap.size := (by have := hN.le; first | omega | (simp at this; omega)); have z1 : w.heap.size + 1 < w1.heap.size := (by have := hN.le; first | omega | (simp at this; omega)); have z2 : w.heap.size + 1 + 1 < w1.heap.size := (by have := hN.le; first | omega | (simp at this; omega))))
  refine bodyPost_ret (v := .tuple #[rc 0 0 0 0, .bool false]) (by simp [results, Try.results9, go_sem, *]) rfl ⟨rfl, by (repeat (first | exact New.refl _ | assumption | refine New.alloc ?_ _ | refine New.drew ?_ | refine New.drewN ?_ _ | refine New.setCell ?_ (by first | omega | (simp; omega) | (simp; done)) _ | refine New.trans ?_ (by assumption)))⟩

set_option maxHeartbeats 1000000 in
theorem Meet_b (ax ay aw ah bx by' bw bh : Int) (w : World) (ha : vR ax ay aw ah = true) (hb : vR bx by' bw bh = false) :
    Calls Try.prog 9 #[rc ax ay aw ah, rc bx by' bw bh] w fun e w' => e = .returned (.tuple #[rc 0 0 0 0, .bool false]) ∧ New w w' := by
  go_enter Try.func9, Try.ntmps9
  go_wp2_with (first
    | (go_at_call 27; refine (valid_any _ _ _ _ _).mono ?_; rintro e w1 ⟨rfl, hb1⟩; (first | replace hN := hN.trans hb1 | replace hN := (hN.alloc _).trans hb1 | have hN := hb1); have hc1 := hN.cells; have hf1 := hN.marks; have hd1 := hb1.cells; have he1 := hb1.marks; have z0 : w.heap.size < w1.heap.size := (by have := hN.le; first | omega | (simp at this; omega)); have z1 : w.heap.size + 1 < w1.heap.size := (by have := hN.le; first | omega | (simp at this; omega)); have z2 : w.heap.size + 1 + 1 < w1.heap.size := (by have := hN.le; first | omega | (simp at this; omega))))
  refine bodyPost_ret (v := .tuple #[rc 0 0 0 0, .bool false]) (by simp [results, Try.results9, go_sem, *]) rfl ⟨rfl, by (repeat (first | exact New.refl _ | assumption | refine New.alloc ?_ _ | refine New.drew ?_ | refine New.drewN ?_ _ | refine New.setCell ?_ (by first | omega | (simp; omega) | (simp; done)) _ | refine New.trans ?_ (by assumption)))⟩

set_option maxHeartbeats 1000000 in
theorem Meet_c (ax ay aw ah bx by' bw bh : Int) (w : World) (ha : vR ax ay aw ah = true) (hb : vR bx by' bw bh = true) (h1 : mW ax aw bx bw ≤ 0) :
    Calls Try.prog 9 #[rc ax ay aw ah, rc bx by' bw bh] w fun e w' => e = .returned (.tuple #[rc 0 0 0 0, .bool false]) ∧ New w w' := by
  have HA := Lib.hid ha; have HB := Lib.hid hb
  go_enter Try.func9, Try.ntmps9
  go_wp2_with (first
    | (go_at_call 27; refine (valid_any _ _ _ _ _).mono ?_; rintro e w1 ⟨rfl, hb1⟩; (first | replace hN := hN.trans hb1 | replace hN := (hN.alloc _).trans hb1 | have hN := hb1); have hc1 := hN.cells; have hf1 := hN.marks; have hd1 := hb1.cells; have he1 := hb1.marks; have z0 : w.heap.size < w1.heap.size := (by have := hN.le; first | omega | (simp at this; omega)); have z1 : w.heap.size + 1 < w1.heap.size := (by have := hN.le; first | omega | (simp at this; omega)); have z2 : w.heap.size + 1 + 1 < w1.heap.size := (by have := hN.le; first | omega | (simp at this; omega)))
    | (go_at_call 28; refine (meet_any _ _ _ _ _ _ _ _ _ HA.out HB.out).mono ?_; rintro e w2 ⟨rfl, hb2⟩; (first | replace hN := hN.trans hb2 | replace hN := (hN.alloc _).trans hb2 | have hN := hb2); have hc2 := hN.cells; have hf2 := hN.marks; have hd2 := hb2.cells; have he2 := hb2.marks; have z0 : w.heap.size < w2.heap.size := (by have := hN.le; first | omega | (simp at this; omega)); have z1 : w.heap.size + 1 < w2.heap.size := (by have := hN.le; first | omega | (simp at this; omega)); have z2 : w.heap.size + 1 + 1 < w2.heap.size := (by have := hN.le; first | omega | (simp at this; omega))))
  refine bodyPost_ret (v := .tuple #[rc 0 0 0 0, .bool false]) (by simp [results, Try.results9, go_sem, *]) rfl ⟨rfl, by (repeat (first | exact New.refl _ | assumption | refine New.alloc ?_ _ | refine New.drew ?_ | refine New.drewN ?_ _ | refine New.setCell ?_ (by first | omega | (simp; omega) | (simp; done)) _ | refine New.trans ?_ (by assumption)))⟩

set_option maxHeartbeats 1000000 in
theorem Meet_d (ax ay aw ah bx by' bw bh : Int) (w : World) (ha : vR ax ay aw ah = true) (hb : vR bx by' bw bh = true) (h1 : 0 < mW ax aw bx bw) (h2 : mW ay ah by' bh ≤ 0) :
    Calls Try.prog 9 #[rc ax ay aw ah, rc bx by' bw bh] w fun e w' => e = .returned (.tuple #[rc 0 0 0 0, .bool false]) ∧ New w w' := by
  have HA := Lib.hid ha; have HB := Lib.hid hb
  go_enter Try.func9, Try.ntmps9
  go_wp2_with (first
    | (go_at_call 27; refine (valid_any _ _ _ _ _).mono ?_; rintro e w1 ⟨rfl, hb1⟩; (first | replace hN := hN.trans hb1 | replace hN := (hN.alloc _).trans hb1 | have hN := hb1); have hc1 := hN.cells; have hf1 := hN.marks; have hd1 := hb1.cells; have he1 := hb1.marks; have z0 : w.heap.size < w1.heap.size := (by have := hN.le; first | omega | (simp at this; omega)); have z1 : w.heap.size + 1 < w1.heap.size := (by have := hN.le; first | omega | (simp at this; omega)); have z2 : w.heap.size + 1 + 1 < w1.heap.size := (by have := hN.le; first | omega | (simp at this; omega)))
    | (go_at_call 28; refine (meet_any _ _ _ _ _ _ _ _ _ HA.out HB.out).mono ?_; rintro e w2 ⟨rfl, hb2⟩; (first | replace hN := hN.trans hb2 | replace hN := (hN.alloc _).trans hb2 | have hN := hb2); have hc2 := hN.cells; have hf2 := hN.marks; have hd2 := hb2.cells; have he2 := hb2.marks; have z0 : w.heap.size < w2.heap.size := (by have := hN.le; first | omega | (simp at this; omega)); have z1 : w.heap.size + 1 < w2.heap.size := (by have := hN.le; first | omega | (simp at this; omega)); have z2 : w.heap.size + 1 + 1 < w2.heap.size := (by have := hN.le; first | omega | (simp at this; omega))))
  refine bodyPost_ret (v := .tuple #[rc 0 0 0 0, .bool false]) (by simp [results, Try.results9, go_sem, *]) rfl ⟨rfl, by (repeat (first | exact New.refl _ | assumption | refine New.alloc ?_ _ | refine New.drew ?_ | refine New.drewN ?_ _ | refine New.setCell ?_ (by first | omega | (simp; omega) | (simp; done)) _ | refine New.trans ?_ (by assumption)))⟩

set_option maxHeartbeats 1000000 in
theorem Meet_yes (ax ay aw ah bx by' bw bh : Int) (w : World) (ha : vR ax ay aw ah = true) (hb : vR bx by' bw bh = true) (h1 : 0 < mW ax aw bx bw) (h2 : 0 < mW ay ah by' bh) :
    Calls Try.prog 9 #[rc ax ay aw ah, rc bx by' bw bh] w fun e w' => e = .returned (.tuple #[rc (mx ax bx) (mx ay by') (mW ax aw bx bw) (mW ay ah by' bh), .bool true]) ∧ New w w' := by
  have HA := Lib.hid ha; have HB := Lib.hid hb
  go_enter Try.func9, Try.ntmps9
  go_wp2_with (first
    | (go_at_call 27; refine (valid_any _ _ _ _ _).mono ?_; rintro e w1 ⟨rfl, hb1⟩; (first | replace hN := hN.trans hb1 | replace hN := (hN.alloc _).trans hb1 | have hN := hb1); have hc1 := hN.cells; have hf1 := hN.marks; have hd1 := hb1.cells; have he1 := hb1.marks; have z0 : w.heap.size < w1.heap.size := (by have := hN.le; first | omega | (simp at this; omega)); have z1 : w.heap.size + 1 < w1.heap.size := (by have := hN.le; first | omega | (simp at this; omega)); have z2 : w.heap.size + 1 + 1 < w1.heap.size := (by have := hN.le; first | omega | (simp at this; omega)))
    | (go_at_call 28; refine (meet_any _ _ _ _ _ _ _ _ _ HA.out HB.out).mono ?_; rintro e w2 ⟨rfl, hb2⟩; (first | replace hN := hN.trans hb2 | replace hN := (hN.alloc _).trans hb2 | have hN := hb2); have hc2 := hN.cells; have hf2 := hN.marks; have hd2 := hb2.cells; have he2 := hb2.marks; have z0 : w.heap.size < w2.heap.size := (by have := hN.le; first | omega | (simp at this; omega)); have z1 : w.heap.size + 1 < w2.heap.size := (by have := hN.le; first | omega | (simp at this; omega)); have z2 : w.heap.size + 1 + 1 < w2.heap.size := (by have := hN.le; first | omega | (simp at this; omega))))
  refine bodyPost_ret (v := .tuple #[rc (mx ax bx) (mx ay by') (mW ax aw bx bw) (mW ay ah by' bh), .bool true]) (by simp [results, Try.results9, go_sem, *]) rfl ⟨rfl, by (repeat (first | exact New.refl _ | assumption | refine New.alloc ?_ _ | refine New.drew ?_ | refine New.drewN ?_ _ | refine New.setCell ?_ (by first | omega | (simp; omega) | (simp; done)) _ | refine New.trans ?_ (by assumption)))⟩

set_option maxHeartbeats 1000000 in
theorem SMeet_a (ax ay aw ah bx by' bw bh : Int) (w : World) (ha : vR ax ay aw ah = false) :
    Calls Try.prog 10 #[rc ax ay aw ah, rc bx by' bw bh] w fun e w' => e = .returned (.tuple #[rc 0 0 0 0, .bool false]) ∧ New w w' := by
  go_enter Try.func10, Try.ntmps10
  go_wp2_with (first
    | (go_at_call 29; refine (validRect_any _ _ _ _ _).mono ?_; rintro e w1 ⟨rfl, hb1⟩; (first | replace hN := hN.trans hb1 | replace hN := (hN.alloc _).trans hb1 | have hN := hb1); have hc1 := hN.cells; have hf1 := hN.marks; have hd1 := hb1.cells; have he1 := hb1.marks; have z0 : w.heap.size < w1.heap.size := (by have := hN.le; first | omega | (simp at this; omega)); have z1 : w.heap.size + 1 < w1.heap.size := (by have := hN.le; first | omega | (simp at this; omega)); have z2 : w.heap.size + 1 + 1 < w1.heap.size := (by have := hN.le; first | omega | (simp at this; omega))))
  refine bodyPost_ret (v := .tuple #[rc 0 0 0 0, .bool false]) (by simp [results, Try.results10, go_sem, *]) rfl ⟨rfl, by (repeat (first | exact New.refl _ | assumption | refine New.alloc ?_ _ | refine New.drew ?_ | refine New.drewN ?_ _ | refine New.setCell ?_ (by first | omega | (simp; omega) | (simp; done)) _ | refine New.trans ?_ (by assumption)))⟩

set_option maxHeartbeats 1000000 in
theorem SMeet_b (ax ay aw ah bx by' bw bh : Int) (w : World) (ha : vR ax ay aw ah = true) (hb : vR bx by' bw bh = false) :
    Calls Try.prog 10 #[rc ax ay aw ah, rc bx by' bw bh] w fun e w' => e = .returned (.tuple #[rc 0 0 0 0, .bool false]) ∧ New w w' := by
  go_enter Try.func10, Try.ntmps10
  go_wp2_with (first
    | (go_at_call 29; refine (validRect_any _ _ _ _ _).mono ?_; rintro e w1 ⟨rfl, hb1⟩; (first | replace hN := hN.trans hb1 | replace hN := (hN.alloc _).trans hb1 | have hN := hb1); have hc1 := hN.cells; have hf1 := hN.marks; have hd1 := hb1.cells; have he1 := hb1.marks; have z0 : w.heap.size < w1.heap.size := (by have := hN.le; first | omega | (simp at this; omega)); have z1 : w.heap.size + 1 < w1.heap.size := (by have := hN.le; first | omega | (simp at this; omega)); have z2 : w.heap.size + 1 + 1 < w1.heap.size := (by have := hN.le; first | omega | (simp at this; omega))))
  refine bodyPost_ret (v := .tuple #[rc 0 0 0 0, .bool false]) (by simp [results, Try.results10, go_sem, *]) rfl ⟨rfl, by (repeat (first | exact New.refl _ | assumption | refine New.alloc ?_ _ | refine New.drew ?_ | refine New.drewN ?_ _ | refine New.setCell ?_ (by first | omega | (simp; omega) | (simp; done)) _ | refine New.trans ?_ (by assumption)))⟩

set_option maxHeartbeats 1000000 in
theorem SMeet_c (ax ay aw ah bx by' bw bh : Int) (w : World) (ha : vR ax ay aw ah = true) (hb : vR bx by' bw bh = true) (h1 : mW ax aw bx bw ≤ 0) :
    Calls Try.prog 10 #[rc ax ay aw ah, rc bx by' bw bh] w fun e w' => e = .returned (.tuple #[rc 0 0 0 0, .bool false]) ∧ New w w' := by
  have HA := Lib.hid ha; have HB := Lib.hid hb
  have d1 : decide (0 < mW ax aw bx bw) = false := by simp; omega
  go_enter Try.func10, Try.ntmps10
  go_wp2_with (first
    | (go_at_call 29; refine (validRect_any _ _ _ _ _).mono ?_; rintro e w1 ⟨rfl, hb1⟩; (first | replace hN := hN.trans hb1 | replace hN := (hN.alloc _).trans hb1 | have hN := hb1); have hc1 := hN.cells; have hf1 := hN.marks; have hd1 := hb1.cells; have he1 := hb1.marks; have z0 : w.heap.size < w1.heap.size := (by have := hN.le; first | omega | (simp at this; omega)); have z1 : w.heap.size + 1 < w1.heap.size := (by have := hN.le; first | omega | (simp at this; omega)); have z2 : w.heap.size + 1 + 1 < w1.heap.size := (by have := hN.le; first | omega | (simp at this; omega)))
    | (go_at_call 30; refine (smeet_any _ _ _ _ _ _ _ _ _ HA.out HB.out).mono ?_; rintro e w2 ⟨rfl, hb2⟩; (first | replace hN := hN.trans hb2 | replace hN := (hN.alloc _).trans hb2 | have hN := hb2); have hc2 := hN.cells; have hf2 := hN.marks; have hd2 := hb2.cells; have he2 := hb2.marks; have z0 : w.heap.size < w2.heap.size := (by have := hN.le; first | omega | (simp at this; omega)); have z1 : w.heap.size + 1 < w2.heap.size := (by have := hN.le; first | omega | (simp at this; omega)); have z2 : w.heap.size + 1 + 1 < w2.heap.size := (by have := hN.le; first | omega | (simp at this; omega))))
  refine bodyPost_ret (v := .tuple #[rc 0 0 0 0, .bool false]) (by simp [results, Try.results10, go_sem, *]) rfl ⟨rfl, by (repeat (first | exact New.refl _ | assumption | refine New.alloc ?_ _ | refine New.drew ?_ | refine New.drewN ?_ _ | refine New.setCell ?_ (by first | omega | (simp; omega) | (simp; done)) _ | refine New.trans ?_ (by assumption)))⟩

set_option maxHeartbeats 1000000 in
theorem SMeet_d (ax ay aw ah bx by' bw bh : Int) (w : World) (ha : vR ax ay aw ah = true) (hb : vR bx by' bw bh = true) (h1 : 0 < mW ax aw bx bw) (h2 : mW ay ah by' bh ≤ 0) :
    Calls Try.prog 10 #[rc ax ay aw ah, rc bx by' bw bh] w fun e w' => e = .returned (.tuple #[rc 0 0 0 0, .bool false]) ∧ New w w' := by
  have HA := Lib.hid ha; have HB := Lib.hid hb
  have d2 : decide (0 < mW ay ah by' bh) = false := by simp; omega
  go_enter Try.func10, Try.ntmps10
  go_wp2_with (first
    | (go_at_call 29; refine (validRect_any _ _ _ _ _).mono ?_; rintro e w1 ⟨rfl, hb1⟩; (first | replace hN := hN.trans hb1 | replace hN := (hN.alloc _).trans hb1 | have hN := hb1); have hc1 := hN.cells; have hf1 := hN.marks; have hd1 := hb1.cells; have he1 := hb1.marks; have z0 : w.heap.size < w1.heap.size := (by have := hN.le; first | omega | (simp at this; omega)); have z1 : w.heap.size + 1 < w1.heap.size := (by have := hN.le; first | omega | (simp at this; omega)); have z2 : w.heap.size + 1 + 1 < w1.heap.size := (by have := hN.le; first | omega | (simp at this; omega)))
    | (go_at_call 30; refine (smeet_any _ _ _ _ _ _ _ _ _ HA.out HB.out).mono ?_; rintro e w2 ⟨rfl, hb2⟩; (first | replace hN := hN.trans hb2 | replace hN := (hN.alloc _).trans hb2 | have hN := hb2); have hc2 := hN.cells; have hf2 := hN.marks; have hd2 := hb2.cells; have he2 := hb2.marks; have z0 : w.heap.size < w2.heap.size := (by have := hN.le; first | omega | (simp at this; omega)); have z1 : w.heap.size + 1 < w2.heap.size := (by have := hN.le; first | omega | (simp at this; omega)); have z2 : w.heap.size + 1 + 1 < w2.heap.size := (by have := hN.le; first | omega | (simp at this; omega))))
  refine bodyPost_ret (v := .tuple #[rc 0 0 0 0, .bool false]) (by simp [results, Try.results10, go_sem, *]) rfl ⟨rfl, by (repeat (first | exact New.refl _ | assumption | refine New.alloc ?_ _ | refine New.drew ?_ | refine New.drewN ?_ _ | refine New.setCell ?_ (by first | omega | (simp; omega) | (simp; done)) _ | refine New.trans ?_ (by assumption)))⟩

set_option maxHeartbeats 1000000 in
theorem SMeet_yes (ax ay aw ah bx by' bw bh : Int) (w : World) (ha : vR ax ay aw ah = true) (hb : vR bx by' bw bh = true) (h1 : 0 < mW ax aw bx bw) (h2 : 0 < mW ay ah by' bh) :
    Calls Try.prog 10 #[rc ax ay aw ah, rc bx by' bw bh] w fun e w' => e = .returned (.tuple #[rc (mx ax bx) (mx ay by') (mW ax aw bx bw) (mW ay ah by' bh), .bool true]) ∧ New w w' := by
  have HA := Lib.hid ha; have HB := Lib.hid hb
  go_enter Try.func10, Try.ntmps10
  go_wp2_with (first
    | (go_at_call 29; refine (validRect_any _ _ _ _ _).mono ?_; rintro e w1 ⟨rfl, hb1⟩; (first | replace hN := hN.trans hb1 | replace hN := (hN.alloc _).trans hb1 | have hN := hb1); have hc1 := hN.cells; have hf1 := hN.marks; have hd1 := hb1.cells; have he1 := hb1.marks; have z0 : w.heap.size < w1.heap.size := (by have := hN.le; first | omega | (simp at this; omega)); have z1 : w.heap.size + 1 < w1.heap.size := (by have := hN.le; first | omega | (simp at this; omega)); have z2 : w.heap.size + 1 + 1 < w1.heap.size := (by have := hN.le; first | omega | (simp at this; omega)))
    | (go_at_call 30; refine (smeet_any _ _ _ _ _ _ _ _ _ HA.out HB.out).mono ?_; rintro e w2 ⟨rfl, hb2⟩; (first | replace hN := hN.trans hb2 | replace hN := (hN.alloc _).trans hb2 | have hN := hb2); have hc2 := hN.cells; have hf2 := hN.marks; have hd2 := hb2.cells; have he2 := hb2.marks; have z0 : w.heap.size < w2.heap.size := (by have := hN.le; first | omega | (simp at this; omega)); have z1 : w.heap.size + 1 < w2.heap.size := (by have := hN.le; first | omega | (simp at this; omega)); have z2 : w.heap.size + 1 + 1 < w2.heap.size := (by have := hN.le; first | omega | (simp at this; omega))))
  refine bodyPost_ret (v := .tuple #[rc (mx ax bx) (mx ay by') (mW ax aw bx bw) (mW ay ah by' bh), .bool true]) (by simp [results, Try.results10, go_sem, *]) rfl ⟨rfl, by (repeat (first | exact New.refl _ | assumption | refine New.alloc ?_ _ | refine New.drew ?_ | refine New.drewN ?_ _ | refine New.setCell ?_ (by first | omega | (simp; omega) | (simp; done)) _ | refine New.trans ?_ (by assumption)))⟩

end Go.Proofs.Ytnipnemhbelcaaa
