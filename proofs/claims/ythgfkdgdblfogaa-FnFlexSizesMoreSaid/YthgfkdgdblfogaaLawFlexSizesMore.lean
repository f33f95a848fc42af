/- The law FnFlexSizesMore, walked: more space makes the sizes no smaller together. Condition: the code can be read. -/
import Derived.Test.YthgfkdgdblfogaaDrawFS
import Derived.Test.YthgfkdgdblfogaaFlexE
import Derived.Test.YthgfkdgdblfogaaInts2
namespace Go.Proofs.Ythgfkdgdblfogaa
open Go.RowKit

set_option maxHeartbeats 4000000 in
theorem lawFlexSizesMore (A : Option Addr) (n c : Nat) (hn : n ≤ maxLen) (hnc : n ≤ c) (w : World) (hb : Bytes w A n) :
    Calls Try.prog 12 #[.slice A n c] w fun e w' => e = .returned (.bool true) ∧ New w w' := by
  have HB := Lib.hid hb; have HM := Lib.hid hn
  clear hb
  unfold maxLen at hn
  by_cases hbig : 1048576 < n
  · go_enter Try.func12, Try.ntmps12
    go_wp2
    go_ret
    exact ⟨rfl, by (repeat (first | exact New.refl _ | assumption | refine New.alloc ?_ _ | refine New.drew ?_ | refine New.drewN ?_ _ | refine New.setCell ?_ (by first | omega | (simp; omega) | (simp; done)) _ | refine New.trans ?_ (by assumption)))⟩
  have hm : (n : Int) ≤ 1048576 := by omega
  have hm0 : (0 : Int) ≤ (n : Int) := by omega
  go_enter Try.func12, Try.ntmps12
  go_wp2_with fail
  refine (DrawFlexSizes_any A n c HM.out hnc _ HB.out).mono ?_
  rintro e w1 ⟨B1, m1, d1, ys, x, rfl, I1, mc, m9, _, xb, N1a⟩
  have s1 := N1a.le
  have N1 := Lib.hid ((New.refl w).trans N1a); clear N1a
  replace I1 := Lib.hid I1
  have LY := Lib.hid I1.out.len
  have y0 : (0 : Int) ≤ (m1 : Int) := by omega
  have y1 : (m1 : Int) ≤ 9 := by omega
  by_cases hz : flexA m1 ys x = []
  · have HZ := Lib.hid hz
    clear hz
    go_wp2_with fail
    refine (FlexSizes_ans ys x B1 m1 d1 _ I1.out (by omega)).mono ?_
    rintro e w2 ⟨A2, n2, c2, rfl, l2, r2, N2a⟩
    have s2 := N2a.le
    have I1 := Lib.hid (I1.out.new N2a)
    have N2 := Lib.hid (N1.out.trans N2a); clear N2a
    rw [HZ.out] at l2 r2
    obtain rfl : 0 = n2 := by simpa using l2
    have R2 := Lib.hid r2; clear l2 r2
    go_wp2_with fail
    refine (SFlexSizes_ans ys x B1 m1 d1 _ I1.out (by omega)).mono ?_
    rintro e w3 ⟨A3, n3, c3, rfl, l3, r3, N3a⟩
    have s3 := N3a.le
    have I1 := Lib.hid (I1.out.new N3a)
    have R2 := Lib.hid (R2.out.new N3a)
    have N3 := Lib.hid (N2.out.trans N3a); clear N3a
    rw [HZ.out] at l3 r3
    obtain rfl : 0 = n3 := by simpa using l3
    have R3 := Lib.hid r3; clear l3 r3
    go_wp2_with fail
    refine (equalInts_any _ _ 0 0 _ _ [] [] (by omega) (by omega) _ (R2.out.ints rfl) (R3.out.ints rfl)).mono ?_
    (rw [decide_eq_true rfl]; rintro e w4 ⟨rfl, N4a⟩)
    have s4 := N4a.le
    have I1 := Lib.hid (I1.out.new N4a)
    have R2 := Lib.hid (R2.out.new N4a)
    have R3 := Lib.hid (R3.out.new N4a)
    have N4 := Lib.hid (N3.out.trans N4a); clear N4a
    go_wp2_with fail
    refine (SFlexSizes_ans ys x B1 m1 d1 _ I1.out (by omega)).mono ?_
    rintro e w5 ⟨A5, n5, c5, rfl, l5, r5, N5a⟩
    have s5 := N5a.le
    have I1 := Lib.hid (I1.out.new N5a)
    have R2 := Lib.hid (R2.out.new N5a)
    have R3 := Lib.hid (R3.out.new N5a)
    have N5 := Lib.hid (N4.out.trans N5a); clear N5a
    rw [HZ.out] at l5 r5
    obtain rfl : 0 = n5 := by simpa using l5
    have R5 := Lib.hid r5; clear l5 r5
    go_wp2_with fail
    refine (equalInts_any _ _ 0 0 _ _ [] [] (by omega) (by omega) _ (R2.out.ints rfl) (R5.out.ints rfl)).mono ?_
    (rw [decide_eq_true rfl]; rintro e w6 ⟨rfl, N6a⟩)
    have s6 := N6a.le
    have I1 := Lib.hid (I1.out.new N6a)
    have R2 := Lib.hid (R2.out.new N6a)
    have R3 := Lib.hid (R3.out.new N6a)
    have R5 := Lib.hid (R5.out.new N6a)
    have N6 := Lib.hid (N5.out.trans N6a); clear N6a
    go_wp2
    go_ret
    exact ⟨rfl, N6.out⟩
  · have zp : 0 < (flexA m1 ys x).length := List.length_pos_iff.2 hz
    have zc := flexA_len m1 ys x
    obtain ⟨nz, LZ⟩ : ∃ nz, Hid ((flexA m1 ys x).length = nz) := ⟨_, Lib.hid rfl⟩
    have z1 : 1 ≤ nz := by have := LZ.out; omega
    have z8 : nz ≤ 1048576 := by have := LZ.out; omega
    have zi : (1 : Int) ≤ (nz : Int) := by omega
    have zj : (nz : Int) ≤ 1048576 := by omega
    have zb : ((nz : Int) == 0) = false := by simp; omega
    have NE := Lib.hid hz
    clear hz zp zc
    go_wp2_with fail
    refine (FlexSizes_ans ys x B1 m1 d1 _ I1.out (by omega)).mono ?_
    rintro e w2 ⟨A2, n2, c2, rfl, l2, r2, N2a⟩
    have s2 := N2a.le
    have I1 := Lib.hid (I1.out.new N2a)
    have N2 := Lib.hid (N1.out.trans N2a); clear N2a
    obtain rfl : nz = n2 := by have := LZ.out; omega
    have R2 := Lib.hid r2; clear l2 r2
    go_wp2_with fail
    refine (SFlexSizes_ans ys x B1 m1 d1 _ I1.out (by omega)).mono ?_
    rintro e w3 ⟨A3, n3, c3, rfl, l3, r3, N3a⟩
    have s3 := N3a.le
    have I1 := Lib.hid (I1.out.new N3a)
    have R2 := Lib.hid (R2.out.new N3a)
    have N3 := Lib.hid (N2.out.trans N3a); clear N3a
    obtain rfl : nz = n3 := by have := LZ.out; omega
    have R3 := Lib.hid r3; clear l3 r3
    go_wp2_with fail
    refine (equalInts_any _ _ nz nz _ _ _ _ (by omega) (by omega) _ (R2.out.ints LZ.out) (R3.out.ints LZ.out)).mono ?_
    (rw [decide_eq_true rfl]; rintro e w4 ⟨rfl, N4a⟩)
    have s4 := N4a.le
    have I1 := Lib.hid (I1.out.new N4a)
    have R2 := Lib.hid (R2.out.new N4a)
    have R3 := Lib.hid (R3.out.new N4a)
    have N4 := Lib.hid (N3.out.trans N4a); clear N4a
    have hok : flOkA m1 ys x = true := by
      have h := NE.out
      unfold flexA at h
      by_cases hk : flOkA m1 ys x = true
      · exact hk
      · rw [if_neg hk] at h; exact absurd rfl h
    have he : flexA m1 ys x = flexL m1 ys x := if_pos hok
    obtain ⟨hv, hs⟩ := flOkA_iff.1 hok
    have nm : nz = m1 := by have h1 := LZ.out; rw [he, flexL_len] at h1; omega
    subst nm
    have n8 := (flsB_iff.1 hv).1.2
    have ni8 : (nz : Int) ≤ 8 := by omega
    have HE := Lib.hid he; have HV := Lib.hid hv; have HS := Lib.hid hs
    clear hok he hv
    have SM : Hid (Sml (flexA nz ys x)) := Lib.hid (by rw [HE.out]; exact flexL_sml HV.out HS.out)
    have sb := sum_bd SM.out nz
    rw [List.take_of_length_le (by have := LZ.out; omega)] at sb
    by_cases hx : x = 200000
    · subst hx
      go_wp2_with fail
      refine (SFlexSizes_ans ys 200000 B1 nz d1 _ I1.out (by omega)).mono ?_
      rintro e w5 ⟨A5, n5, c5, rfl, l5, r5, N5a⟩
      have s5 := N5a.le
      have I1 := Lib.hid (I1.out.new N5a)
      have R2 := Lib.hid (R2.out.new N5a)
      have R3 := Lib.hid (R3.out.new N5a)
      have N5 := Lib.hid (N4.out.trans N5a); clear N5a
      obtain rfl : nz = n5 := by have := LZ.out; omega
      have R5 := Lib.hid r5; clear l5 r5
      go_wp2_with fail
      refine (equalInts_any _ _ nz nz _ _ _ _ (by omega) (by omega) _ (R2.out.ints LZ.out) (R5.out.ints LZ.out)).mono ?_
      (rw [decide_eq_true rfl]; rintro e w6 ⟨rfl, N6a⟩)
      have s6 := N6a.le
      have I1 := Lib.hid (I1.out.new N6a)
      have R2 := Lib.hid (R2.out.new N6a)
      have R3 := Lib.hid (R3.out.new N6a)
      have R5 := Lib.hid (R5.out.new N6a)
      have N6 := Lib.hid (N5.out.trans N6a); clear N6a
      go_wp2
      go_ret
      exact ⟨rfl, N6.out⟩
    · have xn : (x == 200000) = false := by simpa using hx
      have hs2 : 0 ≤ x + 1 ∧ x + 1 ≤ 200000 := by omega
      have he2 : flexA nz ys (x + 1) = flexL nz ys (x + 1) := if_pos (flOkA_iff.2 ⟨HV.out, hs2⟩)
      have HE2 := Lib.hid he2
      have HS2 := Lib.hid hs2
      have LZ2 : Hid ((flexA nz ys (x + 1)).length = nz) := Lib.hid (by rw [HE2.out, flexL_len])
      have SM2 : Hid (Sml (flexA nz ys (x + 1))) := Lib.hid (by rw [HE2.out]; exact flexL_sml HV.out HS2.out)
      have mm : (flexA nz ys x).sum ≤ (flexA nz ys (x + 1)).sum := by rw [HE.out, HE2.out]; exact flex_more HV.out hs.1 hs2.2
      have sb2 := sum_bd SM2.out nz
      rw [List.take_of_length_le (by have := LZ2.out; omega)] at sb2
      have xw : IntKind.i64.wrap (x + 1) = x + 1 := IntWalk.i64_in _ (by omega)
      obtain ⟨hs0, hs1⟩ := hs
      clear he2 hs2 hx
      go_wp2_with fail
      refine (FlexSizes_ans ys (x + 1) B1 nz d1 _ I1.out (by omega)).mono ?_
      rintro e w5 ⟨A5, n5, c5, rfl, l5, r5, N5a⟩
      have s5 := N5a.le
      have I1 := Lib.hid (I1.out.new N5a)
      have R2 := Lib.hid (R2.out.new N5a)
      have R3 := Lib.hid (R3.out.new N5a)
      have N5 := Lib.hid (N4.out.trans N5a); clear N5a
      obtain rfl : nz = n5 := by have := LZ2.out; omega
      have R5 := Lib.hid r5; clear l5 r5
      go_wp2_with fail
      refine (lsum_any _ nz _ _ (by omega) _ (R5.out.ints LZ2.out) SM2.out).mono ?_
      rintro e w' ⟨rfl, rfl⟩
      go_wp2_with fail
      refine (lsum_any _ nz _ _ (by omega) _ (R2.out.ints LZ.out) SM.out).mono ?_
      rintro e w' ⟨rfl, rfl⟩
      generalize (flexA nz ys x).sum = t at *
      generalize (flexA nz ys (x + 1)).sum = t2 at *
      have dd : decide (t2 ≥ t) = true := decide_eq_true mm
      go_wp2
      go_ret
      exact ⟨rfl, N5.out⟩
end Go.Proofs.Ythgfkdgdblfogaa
