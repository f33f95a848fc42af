/- The law FnHullOfThree, walked: it returns true and turns nothing old. Condition: the code's bytes can be read. -/
import Derived.Test.YtadoemojppkmpaaDraw2
import Derived.Test.YtadoemojppkmpaaPlain2
import Derived.Lib.Hide
namespace Go.Proofs.Ytadoemojppkmpaa
open Go.RowKit

set_option maxHeartbeats 4000000 in
theorem lawHullOfThree (A : Option Addr) (n c : Nat) (hn : n ≤ maxLen) (hnc : n ≤ c) (w : World) (hb : Bytes w A n) :
    Calls Try.prog 14 #[.slice A n c] w fun e w' => e = .returned (.bool true) ∧ New w w' := by
  have HB := Lib.hid hb
  clear hb
  have hn' := hn
  unfold maxLen at hn'
  by_cases hbig : 1048576 < n
  · go_enter Try.func14, Try.ntmps14
    go_wp2
    go_ret
    exact ⟨rfl, by (repeat (first | exact New.refl _ | assumption | refine New.alloc ?_ _ | refine New.drew ?_ | refine New.drewN ?_ _ | refine New.setCell ?_ (by first | omega | (simp; omega) | (simp; done)) _ | refine New.trans ?_ (by assumption)))⟩
  · have hmx := run_mx Try.prog
    have hmn := run_mn Try.prog
    go_enter Try.func14, Try.ntmps14
    go_wp2_with fail
    refine (DrawHullOf_any A n c hn hnc _ HB.out).mono ?_
    rintro e w1 ⟨ax, ay, aw, ah, bx, by', bw, bh, rfl, hN1⟩
    have cc1 := hN1.cells; have ff1 := hN1.marks; have zz1 := hN1.le; (try simp at zz1)
    have HN1 := Lib.hid hN1; clear hN1
    cases hm : uOk ax ay aw ah bx by' bw bh
    · go_wp2_with fail
      refine (HullOf_any _ _ _ _ _ _ _ _ _).mono ?_
      rintro e w2 ⟨rfl, hN2⟩
      have cc2 := hN2.cells; have ff2 := hN2.marks; have zz2 := hN2.le; (try simp at zz2)
      have HN2 := Lib.hid hN2; clear hN2
      try (have za2_1 : w1.heap.size < w2.heap.size := (by omega))
      try (have zb2_1 : w1.heap.size ≤ w2.heap.size := (by omega))
      try (have zc2_1 : w1.heap.size + 1 < w2.heap.size := (by omega))
      try (have zd2_1 : w1.heap.size + 1 ≤ w2.heap.size := (by omega))
      go_wp2_with fail
      refine (SHullOf_any _ _ _ _ _ _ _ _ _).mono ?_
      rintro e w3 ⟨rfl, hN3⟩
      have cc3 := hN3.cells; have ff3 := hN3.marks; have zz3 := hN3.le; (try simp at zz3)
      have HN3 := Lib.hid hN3; clear hN3
      try (have za3_1 : w1.heap.size < w3.heap.size := (by omega))
      try (have zb3_1 : w1.heap.size ≤ w3.heap.size := (by omega))
      try (have zc3_1 : w1.heap.size + 1 < w3.heap.size := (by omega))
      try (have zd3_1 : w1.heap.size + 1 ≤ w3.heap.size := (by omega))
      try (have za3_2 : w2.heap.size < w3.heap.size := (by omega))
      try (have zb3_2 : w2.heap.size ≤ w3.heap.size := (by omega))
      go_wp2
      go_ret
      have hN1 := HN1.out
      have hN2 := HN2.out
      have hN3 := HN3.out
      exact ⟨rfl, by (repeat (first | exact New.refl _ | assumption | refine New.alloc ?_ _ | refine New.drew ?_ | refine New.drewN ?_ _ | refine New.setCell ?_ (by first | omega | (simp; omega) | (simp; done)) _ | refine New.trans ?_ (by assumption)))⟩
    · cases h1 : uOk (uA ax ay aw ah bx by' bw bh) (uB ax ay aw ah bx by' bw bh) (uC ax ay aw ah bx by' bw bh) (uD ax ay aw ah bx by' bw bh) 7 (-3) 12 50
      · go_wp2_with fail
        refine (HullOf_any _ _ _ _ _ _ _ _ _).mono ?_
        rintro e w2 ⟨rfl, hN2⟩
        have cc2 := hN2.cells; have ff2 := hN2.marks; have zz2 := hN2.le; (try simp at zz2)
        have HN2 := Lib.hid hN2; clear hN2
        try (have za2_1 : w1.heap.size < w2.heap.size := (by omega))
        try (have zb2_1 : w1.heap.size ≤ w2.heap.size := (by omega))
        try (have zc2_1 : w1.heap.size + 1 < w2.heap.size := (by omega))
        try (have zd2_1 : w1.heap.size + 1 ≤ w2.heap.size := (by omega))
        go_wp2_with fail
        refine (SHullOf_any _ _ _ _ _ _ _ _ _).mono ?_
        rintro e w3 ⟨rfl, hN3⟩
        have cc3 := hN3.cells; have ff3 := hN3.marks; have zz3 := hN3.le; (try simp at zz3)
        have HN3 := Lib.hid hN3; clear hN3
        try (have za3_1 : w1.heap.size < w3.heap.size := (by omega))
        try (have zb3_1 : w1.heap.size ≤ w3.heap.size := (by omega))
        try (have zc3_1 : w1.heap.size + 1 < w3.heap.size := (by omega))
        try (have zd3_1 : w1.heap.size + 1 ≤ w3.heap.size := (by omega))
        try (have za3_2 : w2.heap.size < w3.heap.size := (by omega))
        try (have zb3_2 : w2.heap.size ≤ w3.heap.size := (by omega))
        have y1 : w1.heap.size ≤ w3.heap.size + 1 := by omega
        have y2 : w1.heap.size < w3.heap.size + 1 + 1 := by omega
        have y3 : w2.heap.size ≤ w3.heap.size + 1 := by omega
        go_wp2_with fail
        refine (HullOf_any _ _ _ _ _ _ _ _ _).mono ?_
        rintro e w4 ⟨rfl, hN4⟩
        have cc4 := hN4.cells; have ff4 := hN4.marks; have zz4 := hN4.le; (try simp at zz4)
        have HN4 := Lib.hid hN4; clear hN4
        try (have za4_1 : w1.heap.size < w4.heap.size := (by omega))
        try (have zb4_1 : w1.heap.size ≤ w4.heap.size := (by omega))
        try (have zc4_1 : w1.heap.size + 1 < w4.heap.size := (by omega))
        try (have zd4_1 : w1.heap.size + 1 ≤ w4.heap.size := (by omega))
        try (have za4_2 : w2.heap.size < w4.heap.size := (by omega))
        try (have zb4_2 : w2.heap.size ≤ w4.heap.size := (by omega))
        try (have za4_3 : w3.heap.size < w4.heap.size := (by omega))
        try (have zb4_3 : w3.heap.size ≤ w4.heap.size := (by omega))
        try (have zc4_3 : w3.heap.size + 1 < w4.heap.size := (by omega))
        try (have zd4_3 : w3.heap.size + 1 ≤ w4.heap.size := (by omega))
        go_wp2_with fail
        refine (HullOf_any _ _ _ _ _ _ _ _ _).mono ?_
        rintro e w5 ⟨rfl, hN5⟩
        have cc5 := hN5.cells; have ff5 := hN5.marks; have zz5 := hN5.le; (try simp at zz5)
        have HN5 := Lib.hid hN5; clear hN5
        try (have za5_1 : w1.heap.size < w5.heap.size := (by omega))
        try (have zb5_1 : w1.heap.size ≤ w5.heap.size := (by omega))
        try (have zc5_1 : w1.heap.size + 1 < w5.heap.size := (by omega))
        try (have zd5_1 : w1.heap.size + 1 ≤ w5.heap.size := (by omega))
        try (have za5_2 : w2.heap.size < w5.heap.size := (by omega))
        try (have zb5_2 : w2.heap.size ≤ w5.heap.size := (by omega))
        try (have za5_3 : w3.heap.size < w5.heap.size := (by omega))
        try (have zb5_3 : w3.heap.size ≤ w5.heap.size := (by omega))
        try (have zc5_3 : w3.heap.size + 1 < w5.heap.size := (by omega))
        try (have zd5_3 : w3.heap.size + 1 ≤ w5.heap.size := (by omega))
        try (have za5_4 : w4.heap.size < w5.heap.size := (by omega))
        try (have zb5_4 : w4.heap.size ≤ w5.heap.size := (by omega))
        go_wp2_with fail
        refine (HullOf_any _ _ _ _ _ _ _ _ _).mono ?_
        rintro e w6 ⟨rfl, hN6⟩
        have cc6 := hN6.cells; have ff6 := hN6.marks; have zz6 := hN6.le; (try simp at zz6)
        have HN6 := Lib.hid hN6; clear hN6
        try (have za6_1 : w1.heap.size < w6.heap.size := (by omega))
        try (have zb6_1 : w1.heap.size ≤ w6.heap.size := (by omega))
        try (have zc6_1 : w1.heap.size + 1 < w6.heap.size := (by omega))
        try (have zd6_1 : w1.heap.size + 1 ≤ w6.heap.size := (by omega))
        try (have za6_2 : w2.heap.size < w6.heap.size := (by omega))
        try (have zb6_2 : w2.heap.size ≤ w6.heap.size := (by omega))
        try (have za6_3 : w3.heap.size < w6.heap.size := (by omega))
        try (have zb6_3 : w3.heap.size ≤ w6.heap.size := (by omega))
        try (have zc6_3 : w3.heap.size + 1 < w6.heap.size := (by omega))
        try (have zd6_3 : w3.heap.size + 1 ≤ w6.heap.size := (by omega))
        try (have za6_4 : w4.heap.size < w6.heap.size := (by omega))
        try (have zb6_4 : w4.heap.size ≤ w6.heap.size := (by omega))
        try (have za6_5 : w5.heap.size < w6.heap.size := (by omega))
        try (have zb6_5 : w5.heap.size ≤ w6.heap.size := (by omega))
        go_wp2
        go_ret
        have hN1 := HN1.out
        have hN2 := HN2.out
        have hN3 := HN3.out
        have hN4 := HN4.out
        have hN5 := HN5.out
        have hN6 := HN6.out
        exact ⟨rfl, by (repeat (first | exact New.refl _ | assumption | refine New.alloc ?_ _ | refine New.drew ?_ | refine New.drewN ?_ _ | refine New.setCell ?_ (by first | omega | (simp; omega) | (simp; done)) _ | refine New.trans ?_ (by assumption)))⟩
      · cases h2 : uOk bx by' bw bh 7 (-3) 12 50
        · go_wp2_with fail
          refine (HullOf_any _ _ _ _ _ _ _ _ _).mono ?_
          rintro e w2 ⟨rfl, hN2⟩
          have cc2 := hN2.cells; have ff2 := hN2.marks; have zz2 := hN2.le; (try simp at zz2)
          have HN2 := Lib.hid hN2; clear hN2
          try (have za2_1 : w1.heap.size < w2.heap.size := (by omega))
          try (have zb2_1 : w1.heap.size ≤ w2.heap.size := (by omega))
          try (have zc2_1 : w1.heap.size + 1 < w2.heap.size := (by omega))
          try (have zd2_1 : w1.heap.size + 1 ≤ w2.heap.size := (by omega))
          go_wp2_with fail
          refine (SHullOf_any _ _ _ _ _ _ _ _ _).mono ?_
          rintro e w3 ⟨rfl, hN3⟩
          have cc3 := hN3.cells; have ff3 := hN3.marks; have zz3 := hN3.le; (try simp at zz3)
          have HN3 := Lib.hid hN3; clear hN3
          try (have za3_1 : w1.heap.size < w3.heap.size := (by omega))
          try (have zb3_1 : w1.heap.size ≤ w3.heap.size := (by omega))
          try (have zc3_1 : w1.heap.size + 1 < w3.heap.size := (by omega))
          try (have zd3_1 : w1.heap.size + 1 ≤ w3.heap.size := (by omega))
          try (have za3_2 : w2.heap.size < w3.heap.size := (by omega))
          try (have zb3_2 : w2.heap.size ≤ w3.heap.size := (by omega))
          have y1 : w1.heap.size ≤ w3.heap.size + 1 := by omega
          have y2 : w1.heap.size < w3.heap.size + 1 + 1 := by omega
          have y3 : w2.heap.size ≤ w3.heap.size + 1 := by omega
          go_wp2_with fail
          refine (HullOf_any _ _ _ _ _ _ _ _ _).mono ?_
          rintro e w4 ⟨rfl, hN4⟩
          have cc4 := hN4.cells; have ff4 := hN4.marks; have zz4 := hN4.le; (try simp at zz4)
          have HN4 := Lib.hid hN4; clear hN4
          try (have za4_1 : w1.heap.size < w4.heap.size := (by omega))
          try (have zb4_1 : w1.heap.size ≤ w4.heap.size := (by omega))
          try (have zc4_1 : w1.heap.size + 1 < w4.heap.size := (by omega))
          try (have zd4_1 : w1.heap.size + 1 ≤ w4.heap.size := (by omega))
          try (have za4_2 : w2.heap.size < w4.heap.size := (by omega))
          try (have zb4_2 : w2.heap.size ≤ w4.heap.size := (by omega))
          try (have za4_3 : w3.heap.size < w4.heap.size := (by omega))
          try (have zb4_3 : w3.heap.size ≤ w4.heap.size := (by omega))
          try (have zc4_3 : w3.heap.size + 1 < w4.heap.size := (by omega))
          try (have zd4_3 : w3.heap.size + 1 ≤ w4.heap.size := (by omega))
          go_wp2_with fail
          refine (HullOf_any _ _ _ _ _ _ _ _ _).mono ?_
          rintro e w5 ⟨rfl, hN5⟩
          have cc5 := hN5.cells; have ff5 := hN5.marks; have zz5 := hN5.le; (try simp at zz5)
          have HN5 := Lib.hid hN5; clear hN5
          try (have za5_1 : w1.heap.size < w5.heap.size := (by omega))
          try (have zb5_1 : w1.heap.size ≤ w5.heap.size := (by omega))
          try (have zc5_1 : w1.heap.size + 1 < w5.heap.size := (by omega))
          try (have zd5_1 : w1.heap.size + 1 ≤ w5.heap.size := (by omega))
          try (have za5_2 : w2.heap.size < w5.heap.size := (by omega))
          try (have zb5_2 : w2.heap.size ≤ w5.heap.size := (by omega))
          try (have za5_3 : w3.heap.size < w5.heap.size := (by omega))
          try (have zb5_3 : w3.heap.size ≤ w5.heap.size := (by omega))
          try (have zc5_3 : w3.heap.size + 1 < w5.heap.size := (by omega))
          try (have zd5_3 : w3.heap.size + 1 ≤ w5.heap.size := (by omega))
          try (have za5_4 : w4.heap.size < w5.heap.size := (by omega))
          try (have zb5_4 : w4.heap.size ≤ w5.heap.size := (by omega))
          go_wp2_with fail
          refine (HullOf_any _ _ _ _ _ _ _ _ _).mono ?_
          rintro e w6 ⟨rfl, hN6⟩
          have cc6 := hN6.cells; have ff6 := hN6.marks; have zz6 := hN6.le; (try simp at zz6)
          have HN6 := Lib.hid hN6; clear hN6
          try (have za6_1 : w1.heap.size < w6.heap.size := (by omega))
          try (have zb6_1 : w1.heap.size ≤ w6.heap.size := (by omega))
          try (have zc6_1 : w1.heap.size + 1 < w6.heap.size := (by omega))
          try (have zd6_1 : w1.heap.size + 1 ≤ w6.heap.size := (by omega))
          try (have za6_2 : w2.heap.size < w6.heap.size := (by omega))
          try (have zb6_2 : w2.heap.size ≤ w6.heap.size := (by omega))
          try (have za6_3 : w3.heap.size < w6.heap.size := (by omega))
          try (have zb6_3 : w3.heap.size ≤ w6.heap.size := (by omega))
          try (have zc6_3 : w3.heap.size + 1 < w6.heap.size := (by omega))
          try (have zd6_3 : w3.heap.size + 1 ≤ w6.heap.size := (by omega))
          try (have za6_4 : w4.heap.size < w6.heap.size := (by omega))
          try (have zb6_4 : w4.heap.size ≤ w6.heap.size := (by omega))
          try (have za6_5 : w5.heap.size < w6.heap.size := (by omega))
          try (have zb6_5 : w5.heap.size ≤ w6.heap.size := (by omega))
          go_wp2
          go_ret
          have hN1 := HN1.out
          have hN2 := HN2.out
          have hN3 := HN3.out
          have hN4 := HN4.out
          have hN5 := HN5.out
          have hN6 := HN6.out
          exact ⟨rfl, by (repeat (first | exact New.refl _ | assumption | refine New.alloc ?_ _ | refine New.drew ?_ | refine New.drewN ?_ _ | refine New.setCell ?_ (by first | omega | (simp; omega) | (simp; done)) _ | refine New.trans ?_ (by assumption)))⟩
        · cases h3 : uOk ax ay aw ah (uA bx by' bw bh 7 (-3) 12 50) (uB bx by' bw bh 7 (-3) 12 50) (uC bx by' bw bh 7 (-3) 12 50) (uD bx by' bw bh 7 (-3) 12 50)
          · go_wp2_with fail
            refine (HullOf_any _ _ _ _ _ _ _ _ _).mono ?_
            rintro e w2 ⟨rfl, hN2⟩
            have cc2 := hN2.cells; have ff2 := hN2.marks; have zz2 := hN2.le; (try simp at zz2)
            have HN2 := Lib.hid hN2; clear hN2
            try (have za2_1 : w1.heap.size < w2.heap.size := (by omega))
            try (have zb2_1 : w1.heap.size ≤ w2.heap.size := (by omega))
            try (have zc2_1 : w1.heap.size + 1 < w2.heap.size := (by omega))
            try (have zd2_1 : w1.heap.size + 1 ≤ w2.heap.size := (by omega))
            go_wp2_with fail
            refine (SHullOf_any _ _ _ _ _ _ _ _ _).mono ?_
            rintro e w3 ⟨rfl, hN3⟩
            have cc3 := hN3.cells; have ff3 := hN3.marks; have zz3 := hN3.le; (try simp at zz3)
            have HN3 := Lib.hid hN3; clear hN3
            try (have za3_1 : w1.heap.size < w3.heap.size := (by omega))
            try (have zb3_1 : w1.heap.size ≤ w3.heap.size := (by omega))
            try (have zc3_1 : w1.heap.size + 1 < w3.heap.size := (by omega))
            try (have zd3_1 : w1.heap.size + 1 ≤ w3.heap.size := (by omega))
            try (have za3_2 : w2.heap.size < w3.heap.size := (by omega))
            try (have zb3_2 : w2.heap.size ≤ w3.heap.size := (by omega))
            have y1 : w1.heap.size ≤ w3.heap.size + 1 := by omega
            have y2 : w1.heap.size < w3.heap.size + 1 + 1 := by omega
            have y3 : w2.heap.size ≤ w3.heap.size + 1 := by omega
            go_wp2_with fail
            refine (HullOf_any _ _ _ _ _ _ _ _ _).mono ?_
            rintro e w4 ⟨rfl, hN4⟩
            have cc4 := hN4.cells; have ff4 := hN4.marks; have zz4 := hN4.le; (try simp at zz4)
            have HN4 := Lib.hid hN4; clear hN4
            try (have za4_1 : w1.heap.size < w4.heap.size := (by omega))
            try (have zb4_1 : w1.heap.size ≤ w4.heap.size := (by omega))
            try (have zc4_1 : w1.heap.size + 1 < w4.heap.size := (by omega))
            try (have zd4_1 : w1.heap.size + 1 ≤ w4.heap.size := (by omega))
            try (have za4_2 : w2.heap.size < w4.heap.size := (by omega))
            try (have zb4_2 : w2.heap.size ≤ w4.heap.size := (by omega))
            try (have za4_3 : w3.heap.size < w4.heap.size := (by omega))
            try (have zb4_3 : w3.heap.size ≤ w4.heap.size := (by omega))
            try (have zc4_3 : w3.heap.size + 1 < w4.heap.size := (by omega))
            try (have zd4_3 : w3.heap.size + 1 ≤ w4.heap.size := (by omega))
            go_wp2_with fail
            refine (HullOf_any _ _ _ _ _ _ _ _ _).mono ?_
            rintro e w5 ⟨rfl, hN5⟩
            have cc5 := hN5.cells; have ff5 := hN5.marks; have zz5 := hN5.le; (try simp at zz5)
            have HN5 := Lib.hid hN5; clear hN5
            try (have za5_1 : w1.heap.size < w5.heap.size := (by omega))
            try (have zb5_1 : w1.heap.size ≤ w5.heap.size := (by omega))
            try (have zc5_1 : w1.heap.size + 1 < w5.heap.size := (by omega))
            try (have zd5_1 : w1.heap.size + 1 ≤ w5.heap.size := (by omega))
            try (have za5_2 : w2.heap.size < w5.heap.size := (by omega))
            try (have zb5_2 : w2.heap.size ≤ w5.heap.size := (by omega))
            try (have za5_3 : w3.heap.size < w5.heap.size := (by omega))
            try (have zb5_3 : w3.heap.size ≤ w5.heap.size := (by omega))
            try (have zc5_3 : w3.heap.size + 1 < w5.heap.size := (by omega))
            try (have zd5_3 : w3.heap.size + 1 ≤ w5.heap.size := (by omega))
            try (have za5_4 : w4.heap.size < w5.heap.size := (by omega))
            try (have zb5_4 : w4.heap.size ≤ w5.heap.size := (by omega))
            go_wp2_with fail
            refine (HullOf_any _ _ _ _ _ _ _ _ _).mono ?_
            rintro e w6 ⟨rfl, hN6⟩
            have cc6 := hN6.cells; have ff6 := hN6.marks; have zz6 := hN6.le; (try simp at zz6)
            have HN6 := Lib.hid hN6; clear hN6
            try (have za6_1 : w1.heap.size < w6.heap.size := (by omega))
            try (have zb6_1 : w1.heap.size ≤ w6.heap.size := (by omega))
            try (have zc6_1 : w1.heap.size + 1 < w6.heap.size := (by omega))
            try (have zd6_1 : w1.heap.size + 1 ≤ w6.heap.size := (by omega))
            try (have za6_2 : w2.heap.size < w6.heap.size := (by omega))
            try (have zb6_2 : w2.heap.size ≤ w6.heap.size := (by omega))
            try (have za6_3 : w3.heap.size < w6.heap.size := (by omega))
            try (have zb6_3 : w3.heap.size ≤ w6.heap.size := (by omega))
            try (have zc6_3 : w3.heap.size + 1 < w6.heap.size := (by omega))
            try (have zd6_3 : w3.heap.size + 1 ≤ w6.heap.size := (by omega))
            try (have za6_4 : w4.heap.size < w6.heap.size := (by omega))
            try (have zb6_4 : w4.heap.size ≤ w6.heap.size := (by omega))
            try (have za6_5 : w5.heap.size < w6.heap.size := (by omega))
            try (have zb6_5 : w5.heap.size ≤ w6.heap.size := (by omega))
            go_wp2
            go_ret
            have hN1 := HN1.out
            have hN2 := HN2.out
            have hN3 := HN3.out
            have hN4 := HN4.out
            have hN5 := HN5.out
            have hN6 := HN6.out
            exact ⟨rfl, by (repeat (first | exact New.refl _ | assumption | refine New.alloc ?_ _ | refine New.drew ?_ | refine New.drewN ?_ _ | refine New.setCell ?_ (by first | omega | (simp; omega) | (simp; done)) _ | refine New.trans ?_ (by assumption)))⟩
          · obtain ⟨t1, t2, t3, t4⟩ := hull_three hm h1 h2 h3
            go_wp2_with fail
            refine (HullOf_any _ _ _ _ _ _ _ _ _).mono ?_
            rintro e w2 ⟨rfl, hN2⟩
            have cc2 := hN2.cells; have ff2 := hN2.marks; have zz2 := hN2.le; (try simp at zz2)
            have HN2 := Lib.hid hN2; clear hN2
            try (have za2_1 : w1.heap.size < w2.heap.size := (by omega))
            try (have zb2_1 : w1.heap.size ≤ w2.heap.size := (by omega))
            try (have zc2_1 : w1.heap.size + 1 < w2.heap.size := (by omega))
            try (have zd2_1 : w1.heap.size + 1 ≤ w2.heap.size := (by omega))
            go_wp2_with fail
            refine (SHullOf_any _ _ _ _ _ _ _ _ _).mono ?_
            rintro e w3 ⟨rfl, hN3⟩
            have cc3 := hN3.cells; have ff3 := hN3.marks; have zz3 := hN3.le; (try simp at zz3)
            have HN3 := Lib.hid hN3; clear hN3
            try (have za3_1 : w1.heap.size < w3.heap.size := (by omega))
            try (have zb3_1 : w1.heap.size ≤ w3.heap.size := (by omega))
            try (have zc3_1 : w1.heap.size + 1 < w3.heap.size := (by omega))
            try (have zd3_1 : w1.heap.size + 1 ≤ w3.heap.size := (by omega))
            try (have za3_2 : w2.heap.size < w3.heap.size := (by omega))
            try (have zb3_2 : w2.heap.size ≤ w3.heap.size := (by omega))
            have y1 : w1.heap.size ≤ w3.heap.size + 1 := by omega
            have y2 : w1.heap.size < w3.heap.size + 1 + 1 := by omega
            have y3 : w2.heap.size ≤ w3.heap.size + 1 := by omega
            go_wp2_with fail
            refine (HullOf_any _ _ _ _ _ _ _ _ _).mono ?_
            rintro e w4 ⟨rfl, hN4⟩
            have cc4 := hN4.cells; have ff4 := hN4.marks; have zz4 := hN4.le; (try simp at zz4)
            have HN4 := Lib.hid hN4; clear hN4
            try (have za4_1 : w1.heap.size < w4.heap.size := (by omega))
            try (have zb4_1 : w1.heap.size ≤ w4.heap.size := (by omega))
            try (have zc4_1 : w1.heap.size + 1 < w4.heap.size := (by omega))
            try (have zd4_1 : w1.heap.size + 1 ≤ w4.heap.size := (by omega))
            try (have za4_2 : w2.heap.size < w4.heap.size := (by omega))
            try (have zb4_2 : w2.heap.size ≤ w4.heap.size := (by omega))
            try (have za4_3 : w3.heap.size < w4.heap.size := (by omega))
            try (have zb4_3 : w3.heap.size ≤ w4.heap.size := (by omega))
            try (have zc4_3 : w3.heap.size + 1 < w4.heap.size := (by omega))
            try (have zd4_3 : w3.heap.size + 1 ≤ w4.heap.size := (by omega))
            go_wp2_with fail
            refine (HullOf_any _ _ _ _ _ _ _ _ _).mono ?_
            rintro e w5 ⟨rfl, hN5⟩
            have cc5 := hN5.cells; have ff5 := hN5.marks; have zz5 := hN5.le; (try simp at zz5)
            have HN5 := Lib.hid hN5; clear hN5
            try (have za5_1 : w1.heap.size < w5.heap.size := (by omega))
            try (have zb5_1 : w1.heap.size ≤ w5.heap.size := (by omega))
            try (have zc5_1 : w1.heap.size + 1 < w5.heap.size := (by omega))
            try (have zd5_1 : w1.heap.size + 1 ≤ w5.heap.size := (by omega))
            try (have za5_2 : w2.heap.size < w5.heap.size := (by omega))
            try (have zb5_2 : w2.heap.size ≤ w5.heap.size := (by omega))
            try (have za5_3 : w3.heap.size < w5.heap.size := (by omega))
            try (have zb5_3 : w3.heap.size ≤ w5.heap.size := (by omega))
            try (have zc5_3 : w3.heap.size + 1 < w5.heap.size := (by omega))
            try (have zd5_3 : w3.heap.size + 1 ≤ w5.heap.size := (by omega))
            try (have za5_4 : w4.heap.size < w5.heap.size := (by omega))
            try (have zb5_4 : w4.heap.size ≤ w5.heap.size := (by omega))
            go_wp2_with fail
            refine (HullOf_any _ _ _ _ _ _ _ _ _).mono ?_
            rintro e w6 ⟨rfl, hN6⟩
            have cc6 := hN6.cells; have ff6 := hN6.marks; have zz6 := hN6.le; (try simp at zz6)
            have HN6 := Lib.hid hN6; clear hN6
            try (have za6_1 : w1.heap.size < w6.heap.size := (by omega))
            try (have zb6_1 : w1.heap.size ≤ w6.heap.size := (by omega))
            try (have zc6_1 : w1.heap.size + 1 < w6.heap.size := (by omega))
            try (have zd6_1 : w1.heap.size + 1 ≤ w6.heap.size := (by omega))
            try (have za6_2 : w2.heap.size < w6.heap.size := (by omega))
            try (have zb6_2 : w2.heap.size ≤ w6.heap.size := (by omega))
            try (have za6_3 : w3.heap.size < w6.heap.size := (by omega))
            try (have zb6_3 : w3.heap.size ≤ w6.heap.size := (by omega))
            try (have zc6_3 : w3.heap.size + 1 < w6.heap.size := (by omega))
            try (have zd6_3 : w3.heap.size + 1 ≤ w6.heap.size := (by omega))
            try (have za6_4 : w4.heap.size < w6.heap.size := (by omega))
            try (have zb6_4 : w4.heap.size ≤ w6.heap.size := (by omega))
            try (have za6_5 : w5.heap.size < w6.heap.size := (by omega))
            try (have zb6_5 : w5.heap.size ≤ w6.heap.size := (by omega))
            go_wp2
            go_ret
            have hN1 := HN1.out
            have hN2 := HN2.out
            have hN3 := HN3.out
            have hN4 := HN4.out
            have hN5 := HN5.out
            have hN6 := HN6.out
            exact ⟨rfl, by (repeat (first | exact New.refl _ | assumption | refine New.alloc ?_ _ | refine New.drew ?_ | refine New.drewN ?_ _ | refine New.setCell ?_ (by first | omega | (simp; omega) | (simp; done)) _ | refine New.trans ?_ (by assumption)))⟩

end Go.Proofs.Ytadoemojppkmpaa
