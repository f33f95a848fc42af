/- The law FnInRect, walked: whatever the code of at most the longest length, it returns true and turns nothing old. Condition: the code's bytes can be read. -/
import Derived.Test.YtadoemojppkmpaaDraw4
import Derived.Test.YtadoemojppkmpaaRectB
import Derived.Lib.Hide
namespace Go.Proofs.Ytadoemojppkmpaa
open Go.RowKit

theorem iR_corner {x y ww h : Int} (hv : vR x y ww h = true) (hs : 0 < ww ∧ 0 < h) : iR x y ww h x y = true := by
  rw [vR_iff] at hv
  rw [iR_iff]
  omega
theorem iR_none {x y ww h : Int} (hs : ¬ (0 < ww ∧ 0 < h)) : iR x y ww h x y = false := by
  rw [iR_no]
  omega
theorem iR_right (x y ww h : Int) : iR x y ww h (x + ww) y = false := by
  rw [iR_no]
  omega
theorem iR_below (x y ww h : Int) : iR x y ww h x (y + h) = false := by
  rw [iR_no]
  omega
theorem iR_last {x y ww h : Int} (hv : vR x y ww h = true) (hs : 0 < ww ∧ 0 < h) : iR x y ww h (x + ww - 1) (y + h - 1) = true := by
  rw [vR_iff] at hv
  rw [iR_iff]
  omega
set_option maxHeartbeats 4000000 in
theorem lawInRect (A : Option Addr) (n c : Nat) (hn : n ≤ maxLen) (hnc : n ≤ c) (w : World) (hb : Bytes w A n) :
    Calls Try.prog 4 #[.slice A n c] w fun e w' => e = .returned (.bool true) ∧ New w w' := by
  have HB := Lib.hid hb
  clear hb
  have hn' := hn
  unfold maxLen at hn'
  by_cases hbig : 1048576 < n
  · go_enter Try.func4, Try.ntmps4
    go_wp2
    go_ret
    exact ⟨rfl, by (repeat (first | exact New.refl _ | assumption | refine New.alloc ?_ _ | refine New.drew ?_ | refine New.drewN ?_ _ | refine New.setCell ?_ (by first | omega | (simp; omega) | (simp; done)) _ | refine New.trans ?_ (by assumption)))⟩
  · have hmx := run_mx Try.prog
    have hmn := run_mn Try.prog
    go_enter Try.func4, Try.ntmps4
    go_wp2_with fail
    refine (DrawInRect_any A n c hn hnc _ HB.out).mono ?_
    rintro e w1 ⟨x, y, ww, h, px, py, rfl, bp, bq, hN1⟩
    have cc1 := hN1.cells; have ff1 := hN1.marks; have zz1 := hN1.le; (try simp at zz1)
    have HN1 := Lib.hid hN1; clear hN1
    cases hv : vR x y ww h
    · have hval : ∀ W, Calls Try.prog 21 #[rc x y ww h] W fun e w' => e = .returned (.bool false) ∧ New W w' := fun W => by have hh := ValidRect_any x y ww h W; rw [hv] at hh; exact hh
      clear hv
      go_wp2_with fail
      refine (InRect_any _ _ _ _ _ _ _).mono ?_
      rintro e w2 ⟨rfl, hN2⟩
      have cc2 := hN2.cells; have ff2 := hN2.marks; have zz2 := hN2.le; (try simp at zz2)
      have HN2 := Lib.hid hN2; clear hN2
      try (have za2_1 : w1.heap.size < w2.heap.size := (by omega))
      try (have zb2_1 : w1.heap.size ≤ w2.heap.size := (by omega))
      try (have zc2_1 : w1.heap.size + 1 < w2.heap.size := (by omega))
      try (have zd2_1 : w1.heap.size + 1 ≤ w2.heap.size := (by omega))
      go_wp2_with fail
      refine (SInRect_any _ _ _ _ _ _ _).mono ?_
      rintro e w3 ⟨rfl, hN3⟩
      have cc3 := hN3.cells; have ff3 := hN3.marks; have zz3 := hN3.le; (try simp at zz3)
      have HN3 := Lib.hid hN3; clear hN3
      try (have za3_1 : w1.heap.size < w3.heap.size := (by omega))
      try (have zb3_1 : w1.heap.size ≤ w3.heap.size := (by omega))
      try (have zc3_1 : w1.heap.size + 1 < w3.heap.size := (by omega))
      try (have zd3_1 : w1.heap.size + 1 ≤ w3.heap.size := (by omega))
      try (have za3_2 : w2.heap.size < w3.heap.size := (by omega))
      try (have zb3_2 : w2.heap.size ≤ w3.heap.size := (by omega))
      go_wp2_with fail
      refine (hval _).mono ?_
      rintro e w4 ⟨rfl, hN4⟩
      have cc4 := hN4.cells; have ff4 := hN4.marks; have zz4 := hN4.le; (try simp at zz4)
      have HN4 := Lib.hid hN4; clear hN4
      try (have za4_1 : w1.heap.size < w4.heap.size := (by omega))
      try (have zb4_1 : w1.heap.size ≤ w4.heap.size := (by omega))
      try (have zc4_1 : w1.heap.size + 1 < w4.heap.size := (by omega))
      try (have zd4_1 : w1.heap.size + 1 ≤ w4.heap.size := (by omega))
      try (have za4_2 : w2.heap.size < w4.heap.size := (by omega))
      try (have zb4_2 : w2.heap.size ≤ w4.heap.size := (by omega))
      try (have za4_3 : w3.heap.size < w4.heap.size := (by omega))
      try (have zb4_3 : w3.heap.size ≤ w4.heap.size := (by omega))
      go_wp2_with fail
      refine (SInRect_any _ _ _ _ _ _ _).mono ?_
      rintro e w5 ⟨rfl, hN5⟩
      have cc5 := hN5.cells; have ff5 := hN5.marks; have zz5 := hN5.le; (try simp at zz5)
      have HN5 := Lib.hid hN5; clear hN5
      try (have za5_1 : w1.heap.size < w5.heap.size := (by omega))
      try (have zb5_1 : w1.heap.size ≤ w5.heap.size := (by omega))
      try (have zc5_1 : w1.heap.size + 1 < w5.heap.size := (by omega))
      try (have zd5_1 : w1.heap.size + 1 ≤ w5.heap.size := (by omega))
      try (have za5_2 : w2.heap.size < w5.heap.size := (by omega))
      try (have zb5_2 : w2.heap.size ≤ w5.heap.size := (by omega))
      try (have za5_3 : w3.heap.size < w5.heap.size := (by omega))
      try (have zb5_3 : w3.heap.size ≤ w5.heap.size := (by omega))
      try (have za5_4 : w4.heap.size < w5.heap.size := (by omega))
      try (have zb5_4 : w4.heap.size ≤ w5.heap.size := (by omega))
      go_wp2
      go_ret
      have hN1 := HN1.out
      have hN2 := HN2.out
      have hN3 := HN3.out
      have hN4 := HN4.out
      have hN5 := HN5.out
      exact ⟨rfl, by (repeat (first | exact New.refl _ | assumption | refine New.alloc ?_ _ | refine New.drew ?_ | refine New.drewN ?_ _ | refine New.setCell ?_ (by first | omega | (simp; omega) | (simp; done)) _ | refine New.trans ?_ (by assumption)))⟩
    · have hval : ∀ W, Calls Try.prog 21 #[rc x y ww h] W fun e w' => e = .returned (.bool true) ∧ New W w' := fun W => by have hh := ValidRect_any x y ww h W; rw [hv] at hh; exact hh
      obtain ⟨a1, a2, a3, a4, a5, a6, a7, a8⟩ := vR_iff.1 hv
      by_cases s1 : 0 < ww
      · by_cases s2 : 0 < h
        · have hs : 0 < ww ∧ 0 < h := ⟨s1, s2⟩
          have hp1 : ∀ W, Calls Try.prog 23 #[rc x y ww h, .int .i64 (x), .int .i64 (y)] W fun e w' => e = .returned (.bool true) ∧ New W w' := fun W => by have hh := InRect_any x y ww h (x) (y) W; rw [iR_corner hv hs] at hh; exact hh
          have hp2 : ∀ W, Calls Try.prog 23 #[rc x y ww h, .int .i64 (x + ww), .int .i64 (y)] W fun e w' => e = .returned (.bool false) ∧ New W w' := fun W => by have hh := InRect_any x y ww h (x + ww) (y) W; rw [iR_right x y ww h] at hh; exact hh
          have hp3 : ∀ W, Calls Try.prog 23 #[rc x y ww h, .int .i64 (x), .int .i64 (y + h)] W fun e w' => e = .returned (.bool false) ∧ New W w' := fun W => by have hh := InRect_any x y ww h (x) (y + h) W; rw [iR_below x y ww h] at hh; exact hh
          have hp4 : ∀ W, Calls Try.prog 23 #[rc x y ww h, .int .i64 (x + ww - 1), .int .i64 (y + h - 1)] W fun e w' => e = .returned (.bool true) ∧ New W w' := fun W => by have hh := InRect_any x y ww h (x + ww - 1) (y + h - 1) W; rw [iR_last hv hs] at hh; exact hh
          clear hv hs
          go_wp2_with fail
          refine (InRect_any _ _ _ _ _ _ _).mono ?_
          rintro e w2 ⟨rfl, hN2⟩
          have cc2 := hN2.cells; have ff2 := hN2.marks; have zz2 := hN2.le; (try simp at zz2)
          have HN2 := Lib.hid hN2; clear hN2
          try (have za2_1 : w1.heap.size < w2.heap.size := (by omega))
          try (have zb2_1 : w1.heap.size ≤ w2.heap.size := (by omega))
          try (have zc2_1 : w1.heap.size + 1 < w2.heap.size := (by omega))
          try (have zd2_1 : w1.heap.size + 1 ≤ w2.heap.size := (by omega))
          go_wp2_with fail
          refine (SInRect_any _ _ _ _ _ _ _).mono ?_
          rintro e w3 ⟨rfl, hN3⟩
          have cc3 := hN3.cells; have ff3 := hN3.marks; have zz3 := hN3.le; (try simp at zz3)
          have HN3 := Lib.hid hN3; clear hN3
          try (have za3_1 : w1.heap.size < w3.heap.size := (by omega))
          try (have zb3_1 : w1.heap.size ≤ w3.heap.size := (by omega))
          try (have zc3_1 : w1.heap.size + 1 < w3.heap.size := (by omega))
          try (have zd3_1 : w1.heap.size + 1 ≤ w3.heap.size := (by omega))
          try (have za3_2 : w2.heap.size < w3.heap.size := (by omega))
          try (have zb3_2 : w2.heap.size ≤ w3.heap.size := (by omega))
          go_wp2_with fail
          refine (hval _).mono ?_
          rintro e w4 ⟨rfl, hN4⟩
          have cc4 := hN4.cells; have ff4 := hN4.marks; have zz4 := hN4.le; (try simp at zz4)
          have HN4 := Lib.hid hN4; clear hN4
          try (have za4_1 : w1.heap.size < w4.heap.size := (by omega))
          try (have zb4_1 : w1.heap.size ≤ w4.heap.size := (by omega))
          try (have zc4_1 : w1.heap.size + 1 < w4.heap.size := (by omega))
          try (have zd4_1 : w1.heap.size + 1 ≤ w4.heap.size := (by omega))
          try (have za4_2 : w2.heap.size < w4.heap.size := (by omega))
          try (have zb4_2 : w2.heap.size ≤ w4.heap.size := (by omega))
          try (have za4_3 : w3.heap.size < w4.heap.size := (by omega))
          try (have zb4_3 : w3.heap.size ≤ w4.heap.size := (by omega))
          go_wp2_with fail
          refine (hp1 _).mono ?_
          rintro e w5 ⟨rfl, hN5⟩
          have cc5 := hN5.cells; have ff5 := hN5.marks; have zz5 := hN5.le; (try simp at zz5)
          have HN5 := Lib.hid hN5; clear hN5
          try (have za5_1 : w1.heap.size < w5.heap.size := (by omega))
          try (have zb5_1 : w1.heap.size ≤ w5.heap.size := (by omega))
          try (have zc5_1 : w1.heap.size + 1 < w5.heap.size := (by omega))
          try (have zd5_1 : w1.heap.size + 1 ≤ w5.heap.size := (by omega))
          try (have za5_2 : w2.heap.size < w5.heap.size := (by omega))
          try (have zb5_2 : w2.heap.size ≤ w5.heap.size := (by omega))
          try (have za5_3 : w3.heap.size < w5.heap.size := (by omega))
          try (have zb5_3 : w3.heap.size ≤ w5.heap.size := (by omega))
          try (have za5_4 : w4.heap.size < w5.heap.size := (by omega))
          try (have zb5_4 : w4.heap.size ≤ w5.heap.size := (by omega))
          go_wp2_with fail
          refine (hp2 _).mono ?_
          rintro e w6 ⟨rfl, hN6⟩
          have cc6 := hN6.cells; have ff6 := hN6.marks; have zz6 := hN6.le; (try simp at zz6)
          have HN6 := Lib.hid hN6; clear hN6
          try (have za6_1 : w1.heap.size < w6.heap.size := (by omega))
          try (have zb6_1 : w1.heap.size ≤ w6.heap.size := (by omega))
          try (have zc6_1 : w1.heap.size + 1 < w6.heap.size := (by omega))
          try (have zd6_1 : w1.heap.size + 1 ≤ w6.heap.size := (by omega))
          try (have za6_2 : w2.heap.size < w6.heap.size := (by omega))
          try (have zb6_2 : w2.heap.size ≤ w6.heap.size := (by omega))
          try (have za6_3 : w3.heap.size < w6.heap.size := (by omega))
          try (have zb6_3 : w3.heap.size ≤ w6.heap.size := (by omega))
          try (have za6_4 : w4.heap.size < w6.heap.size := (by omega))
          try (have zb6_4 : w4.heap.size ≤ w6.heap.size := (by omega))
          try (have za6_5 : w5.heap.size < w6.heap.size := (by omega))
          try (have zb6_5 : w5.heap.size ≤ w6.heap.size := (by omega))
          go_wp2_with fail
          refine (hp3 _).mono ?_
          rintro e w7 ⟨rfl, hN7⟩
          have cc7 := hN7.cells; have ff7 := hN7.marks; have zz7 := hN7.le; (try simp at zz7)
          have HN7 := Lib.hid hN7; clear hN7
          try (have za7_1 : w1.heap.size < w7.heap.size := (by omega))
          try (have zb7_1 : w1.heap.size ≤ w7.heap.size := (by omega))
          try (have zc7_1 : w1.heap.size + 1 < w7.heap.size := (by omega))
          try (have zd7_1 : w1.heap.size + 1 ≤ w7.heap.size := (by omega))
          try (have za7_2 : w2.heap.size < w7.heap.size := (by omega))
          try (have zb7_2 : w2.heap.size ≤ w7.heap.size := (by omega))
          try (have za7_3 : w3.heap.size < w7.heap.size := (by omega))
          try (have zb7_3 : w3.heap.size ≤ w7.heap.size := (by omega))
          try (have za7_4 : w4.heap.size < w7.heap.size := (by omega))
          try (have zb7_4 : w4.heap.size ≤ w7.heap.size := (by omega))
          try (have za7_5 : w5.heap.size < w7.heap.size := (by omega))
          try (have zb7_5 : w5.heap.size ≤ w7.heap.size := (by omega))
          try (have za7_6 : w6.heap.size < w7.heap.size := (by omega))
          try (have zb7_6 : w6.heap.size ≤ w7.heap.size := (by omega))
          go_wp2_with fail
          refine (hp4 _).mono ?_
          rintro e w8 ⟨rfl, hN8⟩
          have cc8 := hN8.cells; have ff8 := hN8.marks; have zz8 := hN8.le; (try simp at zz8)
          have HN8 := Lib.hid hN8; clear hN8
          try (have za8_1 : w1.heap.size < w8.heap.size := (by omega))
          try (have zb8_1 : w1.heap.size ≤ w8.heap.size := (by omega))
          try (have zc8_1 : w1.heap.size + 1 < w8.heap.size := (by omega))
          try (have zd8_1 : w1.heap.size + 1 ≤ w8.heap.size := (by omega))
          try (have za8_2 : w2.heap.size < w8.heap.size := (by omega))
          try (have zb8_2 : w2.heap.size ≤ w8.heap.size := (by omega))
          try (have za8_3 : w3.heap.size < w8.heap.size := (by omega))
          try (have zb8_3 : w3.heap.size ≤ w8.heap.size := (by omega))
          try (have za8_4 : w4.heap.size < w8.heap.size := (by omega))
          try (have zb8_4 : w4.heap.size ≤ w8.heap.size := (by omega))
          try (have za8_5 : w5.heap.size < w8.heap.size := (by omega))
          try (have zb8_5 : w5.heap.size ≤ w8.heap.size := (by omega))
          try (have za8_6 : w6.heap.size < w8.heap.size := (by omega))
          try (have zb8_6 : w6.heap.size ≤ w8.heap.size := (by omega))
          try (have za8_7 : w7.heap.size < w8.heap.size := (by omega))
          try (have zb8_7 : w7.heap.size ≤ w8.heap.size := (by omega))
          go_wp2
          go_ret
          have hN1 := HN1.out
          have hN2 := HN2.out
          have hN3 := HN3.out
          have hN4 := HN4.out
          have hN5 := HN5.out
          have hN6 := HN6.out
          have hN7 := HN7.out
          have hN8 := HN8.out
          exact ⟨rfl, by (repeat (first | exact New.refl _ | assumption | refine New.alloc ?_ _ | refine New.drew ?_ | refine New.drewN ?_ _ | refine New.setCell ?_ (by first | omega | (simp; omega) | (simp; done)) _ | refine New.trans ?_ (by assumption)))⟩
        · have hs : ¬ (0 < ww ∧ 0 < h) := fun hh => s2 hh.2
          have hp1 : ∀ W, Calls Try.prog 23 #[rc x y ww h, .int .i64 (x), .int .i64 (y)] W fun e w' => e = .returned (.bool false) ∧ New W w' := fun W => by have hh := InRect_any x y ww h (x) (y) W; rw [iR_none hs] at hh; exact hh
          have hp2 : ∀ W, Calls Try.prog 23 #[rc x y ww h, .int .i64 (x + ww), .int .i64 (y)] W fun e w' => e = .returned (.bool false) ∧ New W w' := fun W => by have hh := InRect_any x y ww h (x + ww) (y) W; rw [iR_right x y ww h] at hh; exact hh
          have hp3 : ∀ W, Calls Try.prog 23 #[rc x y ww h, .int .i64 (x), .int .i64 (y + h)] W fun e w' => e = .returned (.bool false) ∧ New W w' := fun W => by have hh := InRect_any x y ww h (x) (y + h) W; rw [iR_below x y ww h] at hh; exact hh
          clear hv hs
          go_wp2_with fail
          refine (InRect_any _ _ _ _ _ _ _).mono ?_
          rintro e w2 ⟨rfl, hN2⟩
          have cc2 := hN2.cells; have ff2 := hN2.marks; have zz2 := hN2.le; (try simp at zz2)
          have HN2 := Lib.hid hN2; clear hN2
          try (have za2_1 : w1.heap.size < w2.heap.size := (by omega))
          try (have zb2_1 : w1.heap.size ≤ w2.heap.size := (by omega))
          try (have zc2_1 : w1.heap.size + 1 < w2.heap.size := (by omega))
          try (have zd2_1 : w1.heap.size + 1 ≤ w2.heap.size := (by omega))
          go_wp2_with fail
          refine (SInRect_any _ _ _ _ _ _ _).mono ?_
          rintro e w3 ⟨rfl, hN3⟩
          have cc3 := hN3.cells; have ff3 := hN3.marks; have zz3 := hN3.le; (try simp at zz3)
          have HN3 := Lib.hid hN3; clear hN3
          try (have za3_1 : w1.heap.size < w3.heap.size := (by omega))
          try (have zb3_1 : w1.heap.size ≤ w3.heap.size := (by omega))
          try (have zc3_1 : w1.heap.size + 1 < w3.heap.size := (by omega))
          try (have zd3_1 : w1.heap.size + 1 ≤ w3.heap.size := (by omega))
          try (have za3_2 : w2.heap.size < w3.heap.size := (by omega))
          try (have zb3_2 : w2.heap.size ≤ w3.heap.size := (by omega))
          go_wp2_with fail
          refine (hval _).mono ?_
          rintro e w4 ⟨rfl, hN4⟩
          have cc4 := hN4.cells; have ff4 := hN4.marks; have zz4 := hN4.le; (try simp at zz4)
          have HN4 := Lib.hid hN4; clear hN4
          try (have za4_1 : w1.heap.size < w4.heap.size := (by omega))
          try (have zb4_1 : w1.heap.size ≤ w4.heap.size := (by omega))
          try (have zc4_1 : w1.heap.size + 1 < w4.heap.size := (by omega))
          try (have zd4_1 : w1.heap.size + 1 ≤ w4.heap.size := (by omega))
          try (have za4_2 : w2.heap.size < w4.heap.size := (by omega))
          try (have zb4_2 : w2.heap.size ≤ w4.heap.size := (by omega))
          try (have za4_3 : w3.heap.size < w4.heap.size := (by omega))
          try (have zb4_3 : w3.heap.size ≤ w4.heap.size := (by omega))
          go_wp2_with fail
          refine (hp1 _).mono ?_
          rintro e w5 ⟨rfl, hN5⟩
          have cc5 := hN5.cells; have ff5 := hN5.marks; have zz5 := hN5.le; (try simp at zz5)
          have HN5 := Lib.hid hN5; clear hN5
          try (have za5_1 : w1.heap.size < w5.heap.size := (by omega))
          try (have zb5_1 : w1.heap.size ≤ w5.heap.size := (by omega))
          try (have zc5_1 : w1.heap.size + 1 < w5.heap.size := (by omega))
          try (have zd5_1 : w1.heap.size + 1 ≤ w5.heap.size := (by omega))
          try (have za5_2 : w2.heap.size < w5.heap.size := (by omega))
          try (have zb5_2 : w2.heap.size ≤ w5.heap.size := (by omega))
          try (have za5_3 : w3.heap.size < w5.heap.size := (by omega))
          try (have zb5_3 : w3.heap.size ≤ w5.heap.size := (by omega))
          try (have za5_4 : w4.heap.size < w5.heap.size := (by omega))
          try (have zb5_4 : w4.heap.size ≤ w5.heap.size := (by omega))
          go_wp2_with fail
          refine (hp2 _).mono ?_
          rintro e w6 ⟨rfl, hN6⟩
          have cc6 := hN6.cells; have ff6 := hN6.marks; have zz6 := hN6.le; (try simp at zz6)
          have HN6 := Lib.hid hN6; clear hN6
          try (have za6_1 : w1.heap.size < w6.heap.size := (by omega))
          try (have zb6_1 : w1.heap.size ≤ w6.heap.size := (by omega))
          try (have zc6_1 : w1.heap.size + 1 < w6.heap.size := (by omega))
          try (have zd6_1 : w1.heap.size + 1 ≤ w6.heap.size := (by omega))
          try (have za6_2 : w2.heap.size < w6.heap.size := (by omega))
          try (have zb6_2 : w2.heap.size ≤ w6.heap.size := (by omega))
          try (have za6_3 : w3.heap.size < w6.heap.size := (by omega))
          try (have zb6_3 : w3.heap.size ≤ w6.heap.size := (by omega))
          try (have za6_4 : w4.heap.size < w6.heap.size := (by omega))
          try (have zb6_4 : w4.heap.size ≤ w6.heap.size := (by omega))
          try (have za6_5 : w5.heap.size < w6.heap.size := (by omega))
          try (have zb6_5 : w5.heap.size ≤ w6.heap.size := (by omega))
          go_wp2_with fail
          refine (hp3 _).mono ?_
          rintro e w7 ⟨rfl, hN7⟩
          have cc7 := hN7.cells; have ff7 := hN7.marks; have zz7 := hN7.le; (try simp at zz7)
          have HN7 := Lib.hid hN7; clear hN7
          try (have za7_1 : w1.heap.size < w7.heap.size := (by omega))
          try (have zb7_1 : w1.heap.size ≤ w7.heap.size := (by omega))
          try (have zc7_1 : w1.heap.size + 1 < w7.heap.size := (by omega))
          try (have zd7_1 : w1.heap.size + 1 ≤ w7.heap.size := (by omega))
          try (have za7_2 : w2.heap.size < w7.heap.size := (by omega))
          try (have zb7_2 : w2.heap.size ≤ w7.heap.size := (by omega))
          try (have za7_3 : w3.heap.size < w7.heap.size := (by omega))
          try (have zb7_3 : w3.heap.size ≤ w7.heap.size := (by omega))
          try (have za7_4 : w4.heap.size < w7.heap.size := (by omega))
          try (have zb7_4 : w4.heap.size ≤ w7.heap.size := (by omega))
          try (have za7_5 : w5.heap.size < w7.heap.size := (by omega))
          try (have zb7_5 : w5.heap.size ≤ w7.heap.size := (by omega))
          try (have za7_6 : w6.heap.size < w7.heap.size := (by omega))
          try (have zb7_6 : w6.heap.size ≤ w7.heap.size := (by omega))
          go_wp2
          go_ret
          have hN1 := HN1.out
          have hN2 := HN2.out
          have hN3 := HN3.out
          have hN4 := HN4.out
          have hN5 := HN5.out
          have hN6 := HN6.out
          have hN7 := HN7.out
          exact ⟨rfl, by (repeat (first | exact New.refl _ | assumption | refine New.alloc ?_ _ | refine New.drew ?_ | refine New.drewN ?_ _ | refine New.setCell ?_ (by first | omega | (simp; omega) | (simp; done)) _ | refine New.trans ?_ (by assumption)))⟩
      · have hs : ¬ (0 < ww ∧ 0 < h) := fun hh => s1 hh.1
        have hp1 : ∀ W, Calls Try.prog 23 #[rc x y ww h, .int .i64 (x), .int .i64 (y)] W fun e w' => e = .returned (.bool false) ∧ New W w' := fun W => by have hh := InRect_any x y ww h (x) (y) W; rw [iR_none hs] at hh; exact hh
        have hp2 : ∀ W, Calls Try.prog 23 #[rc x y ww h, .int .i64 (x + ww), .int .i64 (y)] W fun e w' => e = .returned (.bool false) ∧ New W w' := fun W => by have hh := InRect_any x y ww h (x + ww) (y) W; rw [iR_right x y ww h] at hh; exact hh
        have hp3 : ∀ W, Calls Try.prog 23 #[rc x y ww h, .int .i64 (x), .int .i64 (y + h)] W fun e w' => e = .returned (.bool false) ∧ New W w' := fun W => by have hh := InRect_any x y ww h (x) (y + h) W; rw [iR_below x y ww h] at hh; exact hh
        clear hv hs
        go_wp2_with fail
        refine (InRect_any _ _ _ _ _ _ _).mono ?_
        rintro e w2 ⟨rfl, hN2⟩
        have cc2 := hN2.cells; have ff2 := hN2.marks; have zz2 := hN2.le; (try simp at zz2)
        have HN2 := Lib.hid hN2; clear hN2
        try (have za2_1 : w1.heap.size < w2.heap.size := (by omega))
        try (have zb2_1 : w1.heap.size ≤ w2.heap.size := (by omega))
        try (have zc2_1 : w1.heap.size + 1 < w2.heap.size := (by omega))
        try (have zd2_1 : w1.heap.size + 1 ≤ w2.heap.size := (by omega))
        go_wp2_with fail
        refine (SInRect_any _ _ _ _ _ _ _).mono ?_
        rintro e w3 ⟨rfl, hN3⟩
        have cc3 := hN3.cells; have ff3 := hN3.marks; have zz3 := hN3.le; (try simp at zz3)
        have HN3 := Lib.hid hN3; clear hN3
        try (have za3_1 : w1.heap.size < w3.heap.size := (by omega))
        try (have zb3_1 : w1.heap.size ≤ w3.heap.size := (by omega))
        try (have zc3_1 : w1.heap.size + 1 < w3.heap.size := (by omega))
        try (have zd3_1 : w1.heap.size + 1 ≤ w3.heap.size := (by omega))
        try (have za3_2 : w2.heap.size < w3.heap.size := (by omega))
        try (have zb3_2 : w2.heap.size ≤ w3.heap.size := (by omega))
        go_wp2_with fail
        refine (hval _).mono ?_
        rintro e w4 ⟨rfl, hN4⟩
        have cc4 := hN4.cells; have ff4 := hN4.marks; have zz4 := hN4.le; (try simp at zz4)
        have HN4 := Lib.hid hN4; clear hN4
        try (have za4_1 : w1.heap.size < w4.heap.size := (by omega))
        try (have zb4_1 : w1.heap.size ≤ w4.heap.size := (by omega))
        try (have zc4_1 : w1.heap.size + 1 < w4.heap.size := (by omega))
        try (have zd4_1 : w1.heap.size + 1 ≤ w4.heap.size := (by omega))
        try (have za4_2 : w2.heap.size < w4.heap.size := (by omega))
        try (have zb4_2 : w2.heap.size ≤ w4.heap.size := (by omega))
        try (have za4_3 : w3.heap.size < w4.heap.size := (by omega))
        try (have zb4_3 : w3.heap.size ≤ w4.heap.size := (by omega))
        go_wp2_with fail
        refine (hp1 _).mono ?_
        rintro e w5 ⟨rfl, hN5⟩
        have cc5 := hN5.cells; have ff5 := hN5.marks; have zz5 := hN5.le; (try simp at zz5)
        have HN5 := Lib.hid hN5; clear hN5
        try (have za5_1 : w1.heap.size < w5.heap.size := (by omega))
        try (have zb5_1 : w1.heap.size ≤ w5.heap.size := (by omega))
        try (have zc5_1 : w1.heap.size + 1 < w5.heap.size := (by omega))
        try (have zd5_1 : w1.heap.size + 1 ≤ w5.heap.size := (by omega))
        try (have za5_2 : w2.heap.size < w5.heap.size := (by omega))
        try (have zb5_2 : w2.heap.size ≤ w5.heap.size := (by omega))
        try (have za5_3 : w3.heap.size < w5.heap.size := (by omega))
        try (have zb5_3 : w3.heap.size ≤ w5.heap.size := (by omega))
        try (have za5_4 : w4.heap.size < w5.heap.size := (by omega))
        try (have zb5_4 : w4.heap.size ≤ w5.heap.size := (by omega))
        go_wp2_with fail
        refine (hp2 _).mono ?_
        rintro e w6 ⟨rfl, hN6⟩
        have cc6 := hN6.cells; have ff6 := hN6.marks; have zz6 := hN6.le; (try simp at zz6)
        have HN6 := Lib.hid hN6; clear hN6
        try (have za6_1 : w1.heap.size < w6.heap.size := (by omega))
        try (have zb6_1 : w1.heap.size ≤ w6.heap.size := (by omega))
        try (have zc6_1 : w1.heap.size + 1 < w6.heap.size := (by omega))
        try (have zd6_1 : w1.heap.size + 1 ≤ w6.heap.size := (by omega))
        try (have za6_2 : w2.heap.size < w6.heap.size := (by omega))
        try (have zb6_2 : w2.heap.size ≤ w6.heap.size := (by omega))
        try (have za6_3 : w3.heap.size < w6.heap.size := (by omega))
        try (have zb6_3 : w3.heap.size ≤ w6.heap.size := (by omega))
        try (have za6_4 : w4.heap.size < w6.heap.size := (by omega))
        try (have zb6_4 : w4.heap.size ≤ w6.heap.size := (by omega))
        try (have za6_5 : w5.heap.size < w6.heap.size := (by omega))
        try (have zb6_5 : w5.heap.size ≤ w6.heap.size := (by omega))
        go_wp2_with fail
        refine (hp3 _).mono ?_
        rintro e w7 ⟨rfl, hN7⟩
        have cc7 := hN7.cells; have ff7 := hN7.marks; have zz7 := hN7.le; (try simp at zz7)
        have HN7 := Lib.hid hN7; clear hN7
        try (have za7_1 : w1.heap.size < w7.heap.size := (by omega))
        try (have zb7_1 : w1.heap.size ≤ w7.heap.size := (by omega))
        try (have zc7_1 : w1.heap.size + 1 < w7.heap.size := (by omega))
        try (have zd7_1 : w1.heap.size + 1 ≤ w7.heap.size := (by omega))
        try (have za7_2 : w2.heap.size < w7.heap.size := (by omega))
        try (have zb7_2 : w2.heap.size ≤ w7.heap.size := (by omega))
        try (have za7_3 : w3.heap.size < w7.heap.size := (by omega))
        try (have zb7_3 : w3.heap.size ≤ w7.heap.size := (by omega))
        try (have za7_4 : w4.heap.size < w7.heap.size := (by omega))
        try (have zb7_4 : w4.heap.size ≤ w7.heap.size := (by omega))
        try (have za7_5 : w5.heap.size < w7.heap.size := (by omega))
        try (have zb7_5 : w5.heap.size ≤ w7.heap.size := (by omega))
        try (have za7_6 : w6.heap.size < w7.heap.size := (by omega))
        try (have zb7_6 : w6.heap.size ≤ w7.heap.size := (by omega))
        go_wp2
        go_ret
        have hN1 := HN1.out
        have hN2 := HN2.out
        have hN3 := HN3.out
        have hN4 := HN4.out
        have hN5 := HN5.out
        have hN6 := HN6.out
        have hN7 := HN7.out
        exact ⟨rfl, by (repeat (first | exact New.refl _ | assumption | refine New.alloc ?_ _ | refine New.drew ?_ | refine New.drewN ?_ _ | refine New.setCell ?_ (by first | omega | (simp; omega) | (simp; done)) _ | refine New.trans ?_ (by assumption)))⟩

end Go.Proofs.Ytadoemojppkmpaa
