/- The law FnLeftOverGrow, walked: who grows without a bound takes all. Condition: the code can be read. -/
import Derived.Test.YthgfkdgdblfogaaDrawFS
import Derived.Test.YthgfkdgdblfogaaFlexZ
import Derived.Test.YthgfkdgdblfogaaInts2
import Derived.Test.YthgfkdgdblfogaaFlexH
namespace Go.Proofs.Ythgfkdgdblfogaa
open Go.RowKit

set_option maxHeartbeats 4000000 in
theorem lawLeftOverGrow (A : Option Addr) (n c : Nat) (hn : n ≤ maxLen) (hnc : n ≤ c) (w : World) (hb : Bytes w A n) :
    Calls Try.prog 11 #[.slice A n c] w fun e w' => e = .returned (.bool true) ∧ New w w' := by
  have HB := Lib.hid hb; have HM := Lib.hid hn
  clear hb
  unfold maxLen at hn
  by_cases hbig : 1048576 < n
  · go_enter Try.func11, Try.ntmps11
    go_wp2
    go_ret
    exact ⟨rfl, by (repeat (first | exact New.refl _ | assumption | refine New.alloc ?_ _ | refine New.drew ?_ | refine New.drewN ?_ _ | refine New.setCell ?_ (by first | omega | (simp; omega) | (simp; done)) _ | refine New.trans ?_ (by assumption)))⟩
  have hm : (n : Int) ≤ 1048576 := by omega
  have hm0 : (0 : Int) ≤ (n : Int) := by omega
  go_enter Try.func11, Try.ntmps11
  go_wp2_with fail
  refine (DrawLeftOver_any A n c HM.out hnc _ HB.out).mono ?_
  rintro e w1 ⟨B1, m1, d1, ys, x, rfl, I1, mc, m9, _, xb, N1a⟩
  have s1 := N1a.le
  have N1 := Lib.hid ((New.refl w).trans N1a); clear N1a
  have I1 := Lib.hid I1
  have y0 : (0 : Int) ≤ (m1 : Int) := by omega
  have y1 : (m1 : Int) ≤ 9 := by omega
  obtain ⟨t, ht⟩ : ∃ t, leftO m1 ys x = t := ⟨_, rfl⟩
  have HE := Lib.hid ht
  clear ht
  cases hv : flsB m1 ys
  · have HV := Lib.hid hv; clear hv
    go_wp2_with fail
    refine (LeftOver_any ys x B1 m1 d1 _ I1.out (by omega)).mono ?_
    (rw [HE.out]; rintro e w2 ⟨rfl, N2a⟩)
    have s2 := N2a.le
    have I1 := Lib.hid (I1.out.new N2a)
    have N2 := Lib.hid (N1.out.trans N2a); clear N2a
    go_wp2_with fail
    refine (SLeftOver_any ys x B1 m1 d1 _ I1.out (by omega)).mono ?_
    (rw [HE.out]; rintro e w3 ⟨rfl, N3a⟩)
    have s3 := N3a.le
    have I1 := Lib.hid (I1.out.new N3a)
    have N3 := Lib.hid (N2.out.trans N3a); clear N3a
    go_wp2_with fail
    refine (ValidFlexes_any B1 m1 d1 ys (by omega) _ I1.out).mono ?_
    (rw [HV.out]; rintro e w4 ⟨rfl, N4a⟩)
    have s4 := N4a.le
    have I1 := Lib.hid (I1.out.new N4a)
    have N4 := Lib.hid (N3.out.trans N4a); clear N4a
    go_wp2_with fail
    refine (SLeftOver_any ys x B1 m1 d1 _ I1.out (by omega)).mono ?_
    (rw [HE.out]; rintro e w5 ⟨rfl, N5a⟩)
    have s5 := N5a.le
    have I1 := Lib.hid (I1.out.new N5a)
    have N5 := Lib.hid (N4.out.trans N5a); clear N5a
    go_wp2
    go_ret
    exact ⟨rfl, N5.out⟩
  · have HV := Lib.hid hv; have hr := (flsB_iff.1 hv).1; clear hv
    by_cases h8 : m1 = 8
    · obtain rfl : m1 = 8 := h8
      clear hr y0 y1 m9
      go_wp2_with fail
      refine (LeftOver_any ys x B1 8 d1 _ I1.out (by omega)).mono ?_
      (rw [HE.out]; rintro e w2 ⟨rfl, N2a⟩)
      have s2 := N2a.le
      have I1 := Lib.hid (I1.out.new N2a)
      have N2 := Lib.hid (N1.out.trans N2a); clear N2a
      go_wp2_with fail
      refine (SLeftOver_any ys x B1 8 d1 _ I1.out (by omega)).mono ?_
      (rw [HE.out]; rintro e w3 ⟨rfl, N3a⟩)
      have s3 := N3a.le
      have I1 := Lib.hid (I1.out.new N3a)
      have N3 := Lib.hid (N2.out.trans N3a); clear N3a
      go_wp2_with fail
      refine (ValidFlexes_any B1 8 d1 ys (by omega) _ I1.out).mono ?_
      (rw [HV.out]; rintro e w4 ⟨rfl, N4a⟩)
      have s4 := N4a.le
      have I1 := Lib.hid (I1.out.new N4a)
      have N4 := Lib.hid (N3.out.trans N4a); clear N4a
      go_wp2_with fail
      refine (SLeftOver_any ys x B1 8 d1 _ I1.out (by omega)).mono ?_
      (rw [HE.out]; rintro e w5 ⟨rfl, N5a⟩)
      have s5 := N5a.le
      have I1 := Lib.hid (I1.out.new N5a)
      have N5 := Lib.hid (N4.out.trans N5a); clear N5a
      go_wp2
      go_ret
      exact ⟨rfl, N5.out⟩
    · have m8 : ((m1 : Int) == 8) = false := by simp; omega
      by_cases hx0 : x < 0
      · have x1 : x < 0 := hx0
        go_wp2_with fail
        refine (LeftOver_any ys x B1 m1 d1 _ I1.out (by omega)).mono ?_
        (rw [HE.out]; rintro e w2 ⟨rfl, N2a⟩)
        have s2 := N2a.le
        have I1 := Lib.hid (I1.out.new N2a)
        have N2 := Lib.hid (N1.out.trans N2a); clear N2a
        go_wp2_with fail
        refine (SLeftOver_any ys x B1 m1 d1 _ I1.out (by omega)).mono ?_
        (rw [HE.out]; rintro e w3 ⟨rfl, N3a⟩)
        have s3 := N3a.le
        have I1 := Lib.hid (I1.out.new N3a)
        have N3 := Lib.hid (N2.out.trans N3a); clear N3a
        go_wp2_with fail
        refine (ValidFlexes_any B1 m1 d1 ys (by omega) _ I1.out).mono ?_
        (rw [HV.out]; rintro e w4 ⟨rfl, N4a⟩)
        have s4 := N4a.le
        have I1 := Lib.hid (I1.out.new N4a)
        have N4 := Lib.hid (N3.out.trans N4a); clear N4a
        go_wp2_with fail
        refine (SLeftOver_any ys x B1 m1 d1 _ I1.out (by omega)).mono ?_
        (rw [HE.out]; rintro e w5 ⟨rfl, N5a⟩)
        have s5 := N5a.le
        have I1 := Lib.hid (I1.out.new N5a)
        have N5 := Lib.hid (N4.out.trans N5a); clear N5a
        go_wp2
        go_ret
        exact ⟨rfl, N5.out⟩
      · have x1 : decide (x < 0) = false := decide_eq_false hx0
        by_cases hx1 : 10000 < x
        · have x2 : 10000 < x := hx1
          go_wp2_with fail
          refine (LeftOver_any ys x B1 m1 d1 _ I1.out (by omega)).mono ?_
          (rw [HE.out]; rintro e w2 ⟨rfl, N2a⟩)
          have s2 := N2a.le
          have I1 := Lib.hid (I1.out.new N2a)
          have N2 := Lib.hid (N1.out.trans N2a); clear N2a
          go_wp2_with fail
          refine (SLeftOver_any ys x B1 m1 d1 _ I1.out (by omega)).mono ?_
          (rw [HE.out]; rintro e w3 ⟨rfl, N3a⟩)
          have s3 := N3a.le
          have I1 := Lib.hid (I1.out.new N3a)
          have N3 := Lib.hid (N2.out.trans N3a); clear N3a
          go_wp2_with fail
          refine (ValidFlexes_any B1 m1 d1 ys (by omega) _ I1.out).mono ?_
          (rw [HV.out]; rintro e w4 ⟨rfl, N4a⟩)
          have s4 := N4a.le
          have I1 := Lib.hid (I1.out.new N4a)
          have N4 := Lib.hid (N3.out.trans N4a); clear N4a
          go_wp2_with fail
          refine (SLeftOver_any ys x B1 m1 d1 _ I1.out (by omega)).mono ?_
          (rw [HE.out]; rintro e w5 ⟨rfl, N5a⟩)
          have s5 := N5a.le
          have I1 := Lib.hid (I1.out.new N5a)
          have N5 := Lib.hid (N4.out.trans N5a); clear N5a
          go_wp2
          go_ret
          exact ⟨rfl, N5.out⟩
        · have x2 : decide (10000 < x) = false := decide_eq_false hx1
          have le : leftO (m1 + 1) (ys ++ [0, 0, 10000, 1, 0]) x ≤ 0 := left_grow I1.out.len HV.out (by omega) (by omega)
          have LE := Lib.hid le
          clear le
          go_wp2_with fail
          refine (LeftOver_any ys x B1 m1 d1 _ I1.out (by omega)).mono ?_
          (rw [HE.out]; rintro e w2 ⟨rfl, N2a⟩)
          have s2 := N2a.le
          have I1 := Lib.hid (I1.out.new N2a)
          have N2 := Lib.hid (N1.out.trans N2a); clear N2a
          go_wp2_with fail
          refine (SLeftOver_any ys x B1 m1 d1 _ I1.out (by omega)).mono ?_
          (rw [HE.out]; rintro e w3 ⟨rfl, N3a⟩)
          have s3 := N3a.le
          have I1 := Lib.hid (I1.out.new N3a)
          have N3 := Lib.hid (N2.out.trans N3a); clear N3a
          go_wp2_with fail
          refine (ValidFlexes_any B1 m1 d1 ys (by omega) _ I1.out).mono ?_
          (rw [HV.out]; rintro e w4 ⟨rfl, N4a⟩)
          have s4 := N4a.le
          have I1 := Lib.hid (I1.out.new N4a)
          have N4 := Lib.hid (N3.out.trans N4a); clear N4a
          go_wp2_with (at_builtin; first
            | (refine wp_appFlexN rfl _ _ rfl w4.heap.size _ 0 [] rfl (OwnFlex.empty w4 (Nat.le_refl _)) B1 m1 d1 ys rfl (I1.out.new ((New.refl _).alloc _)) (by omega) (by simp) ?_; intro v6 w6 O6 G6; (have N6 := Lib.hid (new_ownFlex ((New.refl w4).alloc _) G6 (OwnFlex.empty w4 (Nat.le_refl _)) (Nat.le_refl _))); (replace O6 := Lib.hid O6); (have s6 := N6.out.le); clear G6)
            | (refine wp_appFlex rfl _ _ rfl w4.heap.size _ (0 + m1) ([] ++ ys) rfl (O6.out.alloc _) w6.heap.size 0 0 10000 1 0 rfl (Row.oneFlex _ _ _ _ _ _ _) (by omega) (by simp; omega) ?_; intro v7 w7 O7 G7; (have N7 := Lib.hid (new_ownFlex (N6.out.alloc _) G7 (O6.out.alloc _) (Nat.le_refl _))); (replace O7 := Lib.hid O7)))
          obtain ⟨A7, c7, rfl, _, Z7⟩ := O7.out.res
          have H7 := O7.out.2
          simp only [List.nil_append, Nat.zero_add] at Z7 H7 ⊢
          have R7 := Lib.hid (Sts.of_res (m := 4) Z7 H7)
          have NN := Lib.hid (N4.out.trans N7.out)
          clear Z7 O7 O6 N7 N6 H7
          go_wp2_with fail
          refine (LeftOver_any _ x A7 (m1 + 1) c7 _ R7.out (by omega)).mono ?_
          rintro e w8 ⟨rfl, N8⟩
          have NN := Lib.hid (NN.out.trans N8); clear N8
          have le := LE.out
          generalize leftO (m1 + 1) (ys ++ [0, 0, 10000, 1, 0]) x = t2 at *
          have dd : decide (t2 ≤ 0) = true := decide_eq_true le
          go_wp2
          go_ret
          exact ⟨rfl, NN.out⟩
end Go.Proofs.Ythgfkdgdblfogaa
