/- The law FnLeftOver, walked: what is left and the sizes add up to the space. Condition: the code can be read. -/
import Derived.Test.YthgfkdgdblfogaaDrawFS
import Derived.Test.YthgfkdgdblfogaaFlexZ
import Derived.Test.YthgfkdgdblfogaaInts2
namespace Go.Proofs.Ythgfkdgdblfogaa
open Go.RowKit

set_option maxHeartbeats 4000000 in
theorem lawLeftOver (A : Option Addr) (n c : Nat) (hn : n ≤ maxLen) (hnc : n ≤ c) (w : World) (hb : Bytes w A n) :
    Calls Try.prog 10 #[.slice A n c] w fun e w' => e = .returned (.bool true) ∧ New w w' := by
  have HB := Lib.hid hb; have HM := Lib.hid hn
  clear hb
  unfold maxLen at hn
  by_cases hbig : 1048576 < n
  · go_enter Try.func10, Try.ntmps10
    go_wp2
    go_ret
    exact ⟨rfl, by (repeat (first | exact New.refl _ | assumption | refine New.alloc ?_ _ | refine New.drew ?_ | refine New.drewN ?_ _ | refine New.setCell ?_ (by first | omega | (simp; omega) | (simp; done)) _ | refine New.trans ?_ (by assumption)))⟩
  have hm : (n : Int) ≤ 1048576 := by omega
  have hm0 : (0 : Int) ≤ (n : Int) := by omega
  go_enter Try.func10, Try.ntmps10
  go_wp2_with fail
  refine (DrawLeftOver_any A n c HM.out hnc _ HB.out).mono ?_
  rintro e w1 ⟨B1, m1, d1, ys, x, rfl, I1, mc, m9, _, xb, N1a⟩
  have s1 := N1a.le
  have N1 := Lib.hid ((New.refl w).trans N1a); clear N1a
  have I1 := Lib.hid I1
  have y0 : (0 : Int) ≤ (m1 : Int) := by omega
  have y1 : (m1 : Int) ≤ 9 := by omega
  cases hok : flOkA m1 ys x
  · have HE : Hid (leftO m1 ys x = 0) := Lib.hid (by unfold leftO; rw [hok]; rfl)
    have HZ : Hid (flexA m1 ys x = []) := Lib.hid (by unfold flexA; rw [hok]; rfl)
    clear hok
    go_wp2_with fail
    refine (LeftOver_any ys x B1 m1 d1 _ I1.out (by omega)).mono ?_
    (rw [HE.out]; rintro e w2 ⟨rfl, N2a⟩)
    have s2 := N2a.le
    have I1 := Lib.hid (I1.out.new N2a)
    have N2 := Lib.hid (N1.out.trans N2a); clear N2a
    go_wp2_with fail
    refine (FlexSizes_ans ys x B1 m1 d1 _ I1.out (by omega)).mono ?_
    rintro e w3 ⟨A3, n3, c3, rfl, l3, r3, N3a⟩
    have s3 := N3a.le
    have I1 := Lib.hid (I1.out.new N3a)
    have N3 := Lib.hid (N2.out.trans N3a); clear N3a
    rw [HZ.out] at l3 r3
    obtain rfl : 0 = n3 := by simpa using l3
    have R3 := Lib.hid r3; clear l3 r3
    go_wp2_with fail
    refine (SLeftOver_any ys x B1 m1 d1 _ I1.out (by omega)).mono ?_
    (rw [HE.out]; rintro e w4 ⟨rfl, N4a⟩)
    have s4 := N4a.le
    have I1 := Lib.hid (I1.out.new N4a)
    have R3 := Lib.hid (R3.out.new N4a)
    have N4 := Lib.hid (N3.out.trans N4a); clear N4a
    go_wp2_with fail
    refine (SLeftOver_any ys x B1 m1 d1 _ I1.out (by omega)).mono ?_
    (rw [HE.out]; rintro e w5 ⟨rfl, N5a⟩)
    have s5 := N5a.le
    have I1 := Lib.hid (I1.out.new N5a)
    have R3 := Lib.hid (R3.out.new N5a)
    have N5 := Lib.hid (N4.out.trans N5a); clear N5a
    go_wp2
    go_ret
    exact ⟨rfl, N5.out⟩
  · have HE : Hid (leftO m1 ys x = x - (flexL m1 ys x).sum) := Lib.hid (by unfold leftO; rw [if_pos hok])
    have HZ : Hid (flexA m1 ys x = flexL m1 ys x) := Lib.hid (if_pos hok)
    have LZ : Hid ((flexL m1 ys x).length = m1) := Lib.hid (flexL_len m1 ys x)
    obtain ⟨hv, hs⟩ := flOkA_iff.1 hok
    have hr := (flsB_iff.1 hv).1
    have m1l : (1 : Int) ≤ (m1 : Int) := by omega
    have m1b : ((m1 : Int) == 0) = false := by simp; omega
    have SM : Hid (Sml (flexL m1 ys x)) := Lib.hid (by
      refine all_at (P := fun z => -1000000000 ≤ z ∧ z ≤ 1000000000) fun i hi => ?_
      rw [LZ.out] at hi
      have h1 := flexL_bd hv hs i hi
      have h2 := flOk_iff.1 ((flsB_iff.1 hv).2 i hi)
      omega)
    have sb := sum_bd SM.out m1
    rw [List.take_of_length_le (by have := LZ.out; omega)] at sb
    clear hok hv
    go_wp2_with fail
    refine (LeftOver_any ys x B1 m1 d1 _ I1.out (by omega)).mono ?_
    (rw [HE.out]; rintro e w2 ⟨rfl, N2a⟩)
    have s2 := N2a.le
    have I1 := Lib.hid (I1.out.new N2a)
    have N2 := Lib.hid (N1.out.trans N2a); clear N2a
    go_wp2_with fail
    refine (FlexSizes_ans ys x B1 m1 d1 _ I1.out (by omega)).mono ?_
    rintro e w3 ⟨A3, n3, c3, rfl, l3, r3, N3a⟩
    have s3 := N3a.le
    have I1 := Lib.hid (I1.out.new N3a)
    have N3 := Lib.hid (N2.out.trans N3a); clear N3a
    rw [HZ.out] at l3 r3
    obtain rfl : m1 = n3 := by have := LZ.out; omega
    have R3 := Lib.hid r3; clear l3 r3
    go_wp2_with fail
    refine (SLeftOver_any ys x B1 m1 d1 _ I1.out (by omega)).mono ?_
    (rw [HE.out]; rintro e w4 ⟨rfl, N4a⟩)
    have s4 := N4a.le
    have I1 := Lib.hid (I1.out.new N4a)
    have R3 := Lib.hid (R3.out.new N4a)
    have N4 := Lib.hid (N3.out.trans N4a); clear N4a
    go_wp2_with fail
    refine (lsum_any _ m1 _ _ (by omega) _ (R3.out.ints LZ.out) SM.out).mono ?_
    rintro e w' ⟨rfl, rfl⟩
    generalize (flexL m1 ys x).sum = t at *
    go_wp2
    go_ret
    exact ⟨rfl, N4.out⟩
end Go.Proofs.Ythgfkdgdblfogaa
