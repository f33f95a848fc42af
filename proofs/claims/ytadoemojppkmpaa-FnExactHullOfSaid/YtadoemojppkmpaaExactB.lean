/- The law FnExactInsetRect, walked: whatever the rectangle and the edge, both answers are the same. Condition: the code's bytes can be read. -/
import Derived.Test.YtadoemojppkmpaaExactA
import Derived.Test.YtadoemojppkmpaaRectG
import Derived.Lib.Hide
namespace Go.Proofs.Ytadoemojppkmpaa
open Go.RowKit

set_option maxHeartbeats 400000 in
theorem eqRect_same (x y ww h : Int) (w : World) :
    Calls Try.prog 37 #[rc x y ww h, rc x y ww h] w fun e w' => e = .returned (.bool true) ∧ New w w' := by
  go_enter Try.func37, Try.ntmps37
  go_wp2
  go_ret
  exact ⟨rfl, by (repeat (first | exact New.refl _ | assumption | refine New.alloc ?_ _ | refine New.drew ?_ | refine New.drewN ?_ _ | refine New.setCell ?_ (by first | omega | (simp; omega) | (simp; done)) _ | refine New.trans ?_ (by assumption)))⟩

set_option maxHeartbeats 1000000 in
theorem lawExactInsetRect (x y ww h ed : Int) (w : World) :
    Calls Try.prog 19 #[rc x y ww h, .int .i64 ed] w fun e w' => e = .returned (.bool true) ∧ New w w' := by
  go_enter Try.func19, Try.ntmps19
  go_wp2_with fail
  refine (toRect_any _ _ _ _ _).mono ?_
  rintro e w1 ⟨rfl, hN1⟩
  have cc1 := hN1.cells; have ff1 := hN1.marks; have zz1 := hN1.le; (try simp at zz1)
  have HN1 := Lib.hid hN1; clear hN1
  try (have z01a : w.heap.size < w1.heap.size := (by omega))
  try (have y01a : w.heap.size ≤ w1.heap.size := (by omega))
  try (have z01b : w.heap.size + 1 < w1.heap.size := (by omega))
  try (have y01b : w.heap.size + 1 ≤ w1.heap.size := (by omega))
  go_wp2_with fail
  refine (SInsetRect_any _ _ _ _ _ _).mono ?_
  rintro e w2 ⟨rfl, hN2⟩
  have cc2 := hN2.cells; have ff2 := hN2.marks; have zz2 := hN2.le; (try simp at zz2)
  have HN2 := Lib.hid hN2; clear hN2
  try (have z02a : w.heap.size < w2.heap.size := (by omega))
  try (have y02a : w.heap.size ≤ w2.heap.size := (by omega))
  try (have z02b : w.heap.size + 1 < w2.heap.size := (by omega))
  try (have y02b : w.heap.size + 1 ≤ w2.heap.size := (by omega))
  try (have za2_1 : w1.heap.size < w2.heap.size := (by omega))
  try (have zb2_1 : w1.heap.size ≤ w2.heap.size := (by omega))
  try (have zc2_1 : w1.heap.size + 1 < w2.heap.size := (by omega))
  try (have zd2_1 : w1.heap.size + 1 ≤ w2.heap.size := (by omega))
  go_wp2_with fail
  refine (toRect_any _ _ _ _ _).mono ?_
  rintro e w3 ⟨rfl, hN3⟩
  have cc3 := hN3.cells; have ff3 := hN3.marks; have zz3 := hN3.le; (try simp at zz3)
  have HN3 := Lib.hid hN3; clear hN3
  try (have z03a : w.heap.size < w3.heap.size := (by omega))
  try (have y03a : w.heap.size ≤ w3.heap.size := (by omega))
  try (have z03b : w.heap.size + 1 < w3.heap.size := (by omega))
  try (have y03b : w.heap.size + 1 ≤ w3.heap.size := (by omega))
  try (have za3_1 : w1.heap.size < w3.heap.size := (by omega))
  try (have zb3_1 : w1.heap.size ≤ w3.heap.size := (by omega))
  try (have zc3_1 : w1.heap.size + 1 < w3.heap.size := (by omega))
  try (have zd3_1 : w1.heap.size + 1 ≤ w3.heap.size := (by omega))
  try (have za3_2 : w2.heap.size < w3.heap.size := (by omega))
  try (have zb3_2 : w2.heap.size ≤ w3.heap.size := (by omega))
  go_wp2_with fail
  refine (InsetRect_any _ _ _ _ _ _).mono ?_
  rintro e w4 ⟨rfl, hN4⟩
  have cc4 := hN4.cells; have ff4 := hN4.marks; have zz4 := hN4.le; (try simp at zz4)
  have HN4 := Lib.hid hN4; clear hN4
  try (have z04a : w.heap.size < w4.heap.size := (by omega))
  try (have y04a : w.heap.size ≤ w4.heap.size := (by omega))
  try (have z04b : w.heap.size + 1 < w4.heap.size := (by omega))
  try (have y04b : w.heap.size + 1 ≤ w4.heap.size := (by omega))
  try (have za4_1 : w1.heap.size < w4.heap.size := (by omega))
  try (have zb4_1 : w1.heap.size ≤ w4.heap.size := (by omega))
  try (have zc4_1 : w1.heap.size + 1 < w4.heap.size := (by omega))
  try (have zd4_1 : w1.heap.size + 1 ≤ w4.heap.size := (by omega))
  try (have za4_2 : w2.heap.size < w4.heap.size := (by omega))
  try (have zb4_2 : w2.heap.size ≤ w4.heap.size := (by omega))
  try (have za4_3 : w3.heap.size < w4.heap.size := (by omega))
  try (have zb4_3 : w3.heap.size ≤ w4.heap.size := (by omega))
  go_wp2_with fail
  refine (eqRect_same _ _ _ _ _).mono ?_
  rintro e w5 ⟨rfl, hN5⟩
  have cc5 := hN5.cells; have ff5 := hN5.marks; have zz5 := hN5.le; (try simp at zz5)
  have HN5 := Lib.hid hN5; clear hN5
  try (have z05a : w.heap.size < w5.heap.size := (by omega))
  try (have y05a : w.heap.size ≤ w5.heap.size := (by omega))
  try (have z05b : w.heap.size + 1 < w5.heap.size := (by omega))
  try (have y05b : w.heap.size + 1 ≤ w5.heap.size := (by omega))
  try (have za5_1 : w1.heap.size < w5.heap.size := (by omega))
  try (have zb5_1 : w1.heap.size ≤ w5.heap.size := (by omega))
  try (have zc5_1 : w1.heap.size + 1 < w5.heap.size := (by omega))
  try (have zd5_1 : w1.heap.size + 1 ≤ w5.heap.size := (by omega))
  try (have za5_2 : w2.heap.size < w5.heap.size := (by omega))
  try (have zb5_2 : w2.heap.size ≤ w5.heap.size := (by omega))
  try (have za5_3 : w3.heap.size < w5.heap.size := (by omega))
  try (have zb5_3 : w3.heap.size ≤ w5.heap.size := (by omega))
  try (have za5_4 : w4.heap.size < w5.heap.size := (by omega))
  try (have zb5_4 : w4.heap.size ≤ w5.heap.size := (by omega))
  go_wp2
  go_ret
  have hN1 := HN1.out
  have hN2 := HN2.out
  have hN3 := HN3.out
  have hN4 := HN4.out
  have hN5 := HN5.out
  exact ⟨rfl, by (repeat (first | exact New.refl _ | assumption | refine New.alloc ?_ _ | refine New.drew ?_ | refine New.drewN ?_ _ | refine New.setCell ?_ (by first | omega | (simp; omega) | (simp; done)) _ | refine New.trans ?_ (by assumption)))⟩
end Go.Proofs.Ytadoemojppkmpaa
