/- The law FnIsAroundBoth, walked: two boxes are not around each other, and the outer one is not deeper. Condition: the code can be read. -/
import Derived.Test.YtgclajfomolkiaaDrawTt
import Derived.Test.YtgclajfomolkiaaTreeP
namespace Go.Proofs.Ytgclajfomolkiaa
open Go.RowKit

set_option maxHeartbeats 4000000 in
theorem lawIsAroundBoth (A : Option Addr) (n c : Nat) (hn : n ≤ maxLen) (hnc : n ≤ c) (w : World) (hb : Bytes w A n) :
    Calls Try.prog 7 #[.slice A n c] w fun e w' => e = .returned (.bool true) ∧ New w w' := by
  have HB := Lib.hid hb; have HM := Lib.hid hn
  clear hb
  unfold maxLen at hn
  by_cases hbig : 1048576 < n
  · go_enter Try.func7, Try.ntmps7
    go_wp2
    go_ret
    exact ⟨rfl, by (repeat (first | exact New.refl _ | assumption | refine New.alloc ?_ _ | refine New.drew ?_ | refine New.drewN ?_ _ | refine New.setCell ?_ (by first | omega | (simp; omega) | (simp; done)) _ | refine New.trans ?_ (by assumption)))⟩
  have hm : (n : Int) ≤ 1048576 := by omega
  have hm0 : (0 : Int) ≤ (n : Int) := by omega
  go_enter Try.func7, Try.ntmps7
  go_wp2_with fail
  refine (DrawIsAround_any A n c HM.out hnc _ HB.out).mono ?_
  rintro e w1 ⟨B1, m1, d1, zs, x, y, rfl, I1, l1, kd, xb, yb, N1a⟩
  have s1 := N1a.le
  have N1 := Lib.hid ((New.refl w).trans N1a); clear N1a
  replace I1 := Lib.hid I1
  by_cases hr : arA m1 zs x y = true
  · obtain ⟨⟨hx, hy⟩, hn⟩ : (nodeOk m1 zs x = true ∧ nodeOk m1 zs y = true) ∧ anc zs x.toNat y.toNat = true := by unfold arA at hr; simpa [and_assoc] using hr
    obtain ⟨hv, a, rfl, ha⟩ := nodeOk_iff.1 hx
    obtain ⟨_, i, rfl, hi⟩ := nodeOk_iff.1 hy
    rw [Int.toNat_natCast, Int.toNat_natCast] at hn
    have EA := Lib.hid hr; have EX := Lib.hid (depA_at hv ha); have EY := Lib.hid (depA_at hv hi); have EB := Lib.hid (arA_at hv hi ha)
    clear hx hy xb yb
    by_cases hai : a = i
    · subst hai
      generalize dep zs a = u at *
      clear hn hv hr
      go_wp2_with fail
      refine (IsAround_any B1 m1 d1 zs (a : Int) (a : Int) (by omega) _ I1.out).mono ?_
      rw [EA.out]
      rintro e w2 ⟨rfl, N2a⟩
      have s2 := N2a.le
      have I1 := Lib.hid (I1.out.new N2a)
      have N2 := Lib.hid (N1.out.trans N2a); clear N2a
      go_wp2_with fail
      refine (SIsAround_any B1 m1 d1 zs (a : Int) (a : Int) (by omega) _ I1.out).mono ?_
      rw [EA.out]
      rintro e w3 ⟨rfl, N3a⟩
      have s3 := N3a.le
      have I1 := Lib.hid (I1.out.new N3a)
      have N3 := Lib.hid (N2.out.trans N3a); clear N3a
      go_wp2_with fail
      refine (IsAround_any B1 m1 d1 zs (a : Int) (a : Int) (by omega) _ I1.out).mono ?_
      rw [EA.out]
      rintro e w4 ⟨rfl, N4a⟩
      have s4 := N4a.le
      have I1 := Lib.hid (I1.out.new N4a)
      have N4 := Lib.hid (N3.out.trans N4a); clear N4a
      go_wp2_with fail
      refine (DepthOf_any B1 m1 d1 zs (a : Int) (by omega) _ I1.out).mono ?_
      rw [EX.out]
      rintro e w5 ⟨rfl, N5a⟩
      have s5 := N5a.le
      have I1 := Lib.hid (I1.out.new N5a)
      have N5 := Lib.hid (N4.out.trans N5a); clear N5a
      go_wp2_with fail
      refine (DepthOf_any B1 m1 d1 zs (a : Int) (by omega) _ I1.out).mono ?_
      rw [EX.out]
      rintro e w6 ⟨rfl, N6a⟩
      have s6 := N6a.le
      have I1 := Lib.hid (I1.out.new N6a)
      have N6 := Lib.hid (N5.out.trans N6a); clear N6a
      go_wp2
      go_ret
      exact ⟨rfl, N6.out⟩
    · have hab : ((a : Int) == (i : Int)) = false := by simp; omega
      have hl := anc_le hn
      have hd := anc_dep hn (by omega)
      have ez : anc zs i a = false := by cases h : anc zs i a with | false => rfl | true => exact absurd (anc_le h) (by omega)
      have EZ := Lib.hid ez
      have hdi : (dep zs a : Int) ≤ (dep zs i : Int) := by omega
      generalize dep zs a = u at *
      generalize dep zs i = u' at *
      clear hv hn hr hl ez hd
      go_wp2_with fail
      refine (IsAround_any B1 m1 d1 zs (a : Int) (i : Int) (by omega) _ I1.out).mono ?_
      rw [EA.out]
      rintro e w2 ⟨rfl, N2a⟩
      have s2 := N2a.le
      have I1 := Lib.hid (I1.out.new N2a)
      have N2 := Lib.hid (N1.out.trans N2a); clear N2a
      go_wp2_with fail
      refine (SIsAround_any B1 m1 d1 zs (a : Int) (i : Int) (by omega) _ I1.out).mono ?_
      rw [EA.out]
      rintro e w3 ⟨rfl, N3a⟩
      have s3 := N3a.le
      have I1 := Lib.hid (I1.out.new N3a)
      have N3 := Lib.hid (N2.out.trans N3a); clear N3a
      go_wp2_with fail
      refine (IsAround_any B1 m1 d1 zs (i : Int) (a : Int) (by omega) _ I1.out).mono ?_
      rw [EB.out, EZ.out]
      rintro e w4 ⟨rfl, N4a⟩
      have s4 := N4a.le
      have I1 := Lib.hid (I1.out.new N4a)
      have N4 := Lib.hid (N3.out.trans N4a); clear N4a
      go_wp2_with fail
      refine (DepthOf_any B1 m1 d1 zs (a : Int) (by omega) _ I1.out).mono ?_
      rw [EX.out]
      rintro e w5 ⟨rfl, N5a⟩
      have s5 := N5a.le
      have I1 := Lib.hid (I1.out.new N5a)
      have N5 := Lib.hid (N4.out.trans N5a); clear N5a
      go_wp2_with fail
      refine (DepthOf_any B1 m1 d1 zs (i : Int) (by omega) _ I1.out).mono ?_
      rw [EY.out]
      rintro e w6 ⟨rfl, N6a⟩
      have s6 := N6a.le
      have I1 := Lib.hid (I1.out.new N6a)
      have N6 := Lib.hid (N5.out.trans N6a); clear N6a
      go_wp2
      go_ret
      exact ⟨rfl, N6.out⟩
  · have hr' : arA m1 zs x y = false := by simpa using hr
    have EA := Lib.hid hr'; clear hr hr'
    go_wp2_with fail
    refine (IsAround_any B1 m1 d1 zs x y (by omega) _ I1.out).mono ?_
    rw [EA.out]
    rintro e w2 ⟨rfl, N2a⟩
    have s2 := N2a.le
    have I1 := Lib.hid (I1.out.new N2a)
    have N2 := Lib.hid (N1.out.trans N2a); clear N2a
    go_wp2_with fail
    refine (SIsAround_any B1 m1 d1 zs x y (by omega) _ I1.out).mono ?_
    rw [EA.out]
    rintro e w3 ⟨rfl, N3a⟩
    have s3 := N3a.le
    have I1 := Lib.hid (I1.out.new N3a)
    have N3 := Lib.hid (N2.out.trans N3a); clear N3a
    go_wp2_with fail
    refine (SIsAround_any B1 m1 d1 zs x y (by omega) _ I1.out).mono ?_
    rw [EA.out]
    rintro e w4 ⟨rfl, N4a⟩
    have s4 := N4a.le
    have I1 := Lib.hid (I1.out.new N4a)
    have N4 := Lib.hid (N3.out.trans N4a); clear N4a
    go_wp2
    go_ret
    exact ⟨rfl, N4.out⟩
end Go.Proofs.Ytgclajfomolkiaa
