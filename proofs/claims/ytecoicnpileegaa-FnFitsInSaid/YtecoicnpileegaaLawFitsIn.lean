/- The law FnFitsIn, walked: a tree fits in its natural size, in no less, and in what is not less. Condition: the code can be read. -/
import Derived.Test.YtecoicnpileegaaDrawFi
import Derived.Test.YtecoicnpileegaaNatP
namespace Go.Proofs.Ytecoicnpileegaa
open Go.RowKit

set_option maxHeartbeats 4000000 in
theorem lawFitsIn (A : Option Addr) (n c : Nat) (hn : n ≤ maxLen) (hnc : n ≤ c) (w : World) (hb : Bytes w A n) :
    Calls Try.prog 10 #[.slice A n c] w fun e w' => e = .returned (.bool true) ∧ New w w' := by
  have HB := Lib.hid hb; have HM := Lib.hid hn
  clear hb
  unfold maxLen at hn
  by_cases hbig : 1048576 < n
  · go_enter Try.func10, Try.ntmps10
    go_wp2
    go_ret
    exact ⟨rfl, by (repeat (first | exact New.refl _ | assumption | refine New.alloc ?_ _ | refine New.drew ?_ | refine New.drewN ?_ _ | refine New.setCell ?_ (by first | omega | (simp; omega) | (simp; done)) _ | refine New.trans ?_ (by assumption)))⟩
  have hm : (n : Int) ≤ 1048576 := by omega
  have hm0 : (0 : Int) ≤ (n : Int) := by omega
  go_enter Try.func10, Try.ntmps10
  go_wp2_with fail
  refine (DrawFitsIn_any A n c HM.out hnc _ HB.out).mono ?_
  rintro e w1 ⟨B1, m1, d1, zs, x, y, rfl, I1, l1, kd, xb, yb, N1a⟩
  have s1 := N1a.le
  have N1 := Lib.hid ((New.refl w).trans N1a); clear N1a
  replace I1 := Lib.hid I1
  cases hv : vtB m1 zs
  · have EF := Lib.hid (fit_no (n := m1) (zs := zs) (w := x) (h := y) hv)
    have hok' : nodeOk m1 zs 0 = false := by unfold nodeOk; rw [hv]; rfl
    have WZ := Lib.hid (natW_no hok'); have HZ := Lib.hid (natH_no hok'); have OZ := Lib.hid hok'
    clear hv hok'
    go_wp2_with fail
    refine (FitsIn_any B1 m1 d1 zs x y (by omega) _ I1.out).mono ?_
    rw [EF.out]
    rintro e w2 ⟨rfl, N2a⟩
    have s2 := N2a.le
    have I1 := Lib.hid (I1.out.new N2a)
    have N2 := Lib.hid (N1.out.trans N2a); clear N2a
    go_wp2_with fail
    refine (NaturalSize_any B1 m1 d1 zs 0 (by omega) _ I1.out).mono ?_
    rw [WZ.out, HZ.out, OZ.out]
    rintro e w3 ⟨rfl, N3a⟩
    have s3 := N3a.le
    have I1 := Lib.hid (I1.out.new N3a)
    have N3 := Lib.hid (N2.out.trans N3a); clear N3a
    go_wp2_with fail
    refine (SFitsIn_any B1 m1 d1 zs x y (by omega) _ I1.out).mono ?_
    rw [EF.out]
    rintro e w4 ⟨rfl, N4a⟩
    have s4 := N4a.le
    have I1 := Lib.hid (I1.out.new N4a)
    have N4 := Lib.hid (N3.out.trans N4a); clear N4a
    go_wp2_with fail
    refine (SFitsIn_any B1 m1 d1 zs x y (by omega) _ I1.out).mono ?_
    rw [EF.out]
    rintro e w5 ⟨rfl, N5a⟩
    have s5 := N5a.le
    have I1 := Lib.hid (I1.out.new N5a)
    have N5 := Lib.hid (N4.out.trans N5a); clear N5a
    go_wp2
    go_ret
    exact ⟨rfl, N5.out⟩
  · have hn0 : 0 < m1 := by have := (vtB_iff.1 hv).1; omega
    have sz := nat_sm hv hn0
    have WA := Lib.hid (show natW m1 zs 0 = (natL zs m1 0).1 from natW_at hv hn0); have HA := Lib.hid (show natH m1 zs 0 = (natL zs m1 0).2 from natH_at hv hn0); have OA := Lib.hid (show nodeOk m1 zs 0 = true from nodeOk_iff.2 ⟨hv, 0, rfl, hn0⟩)
    have FF := fun p q => (show fitB m1 zs p q = (decide ((natL zs m1 0).1 ≤ p) && decide ((natL zs m1 0).2 ≤ q)) by unfold fitB; rw [hv, Bool.true_and])
    generalize (natL zs m1 0).1 = X at *
    generalize (natL zs m1 0).2 = Y at *
    have E1 := Lib.hid (show fitB m1 zs X Y = true by rw [FF]; simp)
    have E2 := Lib.hid (show fitB m1 zs (X - 1) Y = false by rw [FF, decide_eq_false (by omega)]; rfl)
    have E3 := Lib.hid (show fitB m1 zs X (Y - 1) = false by rw [FF, decide_eq_false (show ¬ Y ≤ Y - 1 by omega), Bool.and_false])
    obtain ⟨⟨x1, x2⟩, y1, y2⟩ := sz
    rcases Int.lt_or_le x X with c1 | c1 <;> rcases Int.lt_or_le y Y with c2 | c2
    · have EF := Lib.hid (show fitB m1 zs x y = false by rw [FF]; simp; omega)
      clear FF hv
      go_wp2_with fail
      refine (FitsIn_any B1 m1 d1 zs x y (by omega) _ I1.out).mono ?_
      rw [EF.out]
      rintro e w2 ⟨rfl, N2a⟩
      have s2 := N2a.le
      have I1 := Lib.hid (I1.out.new N2a)
      have N2 := Lib.hid (N1.out.trans N2a); clear N2a
      go_wp2_with fail
      refine (NaturalSize_any B1 m1 d1 zs 0 (by omega) _ I1.out).mono ?_
      rw [WA.out, HA.out, OA.out]
      rintro e w3 ⟨rfl, N3a⟩
      have s3 := N3a.le
      have I1 := Lib.hid (I1.out.new N3a)
      have N3 := Lib.hid (N2.out.trans N3a); clear N3a
      go_wp2_with fail
      refine (SFitsIn_any B1 m1 d1 zs x y (by omega) _ I1.out).mono ?_
      rw [EF.out]
      rintro e w4 ⟨rfl, N4a⟩
      have s4 := N4a.le
      have I1 := Lib.hid (I1.out.new N4a)
      have N4 := Lib.hid (N3.out.trans N4a); clear N4a
      go_wp2_with fail
      refine (FitsIn_any B1 m1 d1 zs X Y (by omega) _ I1.out).mono ?_
      rw [E1.out]
      rintro e w5 ⟨rfl, N5a⟩
      have s5 := N5a.le
      have I1 := Lib.hid (I1.out.new N5a)
      have N5 := Lib.hid (N4.out.trans N5a); clear N5a
      go_wp2_with fail
      refine (FitsIn_any B1 m1 d1 zs (X - 1) Y (by omega) _ I1.out).mono ?_
      rw [E2.out]
      rintro e w6 ⟨rfl, N6a⟩
      have s6 := N6a.le
      have I1 := Lib.hid (I1.out.new N6a)
      have N6 := Lib.hid (N5.out.trans N6a); clear N6a
      go_wp2_with fail
      refine (FitsIn_any B1 m1 d1 zs X (Y - 1) (by omega) _ I1.out).mono ?_
      rw [E3.out]
      rintro e w7 ⟨rfl, N7a⟩
      have s7 := N7a.le
      have I1 := Lib.hid (I1.out.new N7a)
      have N7 := Lib.hid (N6.out.trans N7a); clear N7a
      go_wp2
      go_ret
      exact ⟨rfl, N7.out⟩
    · have EF := Lib.hid (show fitB m1 zs x y = false by rw [FF]; simp; omega)
      clear FF hv
      go_wp2_with fail
      refine (FitsIn_any B1 m1 d1 zs x y (by omega) _ I1.out).mono ?_
      rw [EF.out]
      rintro e w2 ⟨rfl, N2a⟩
      have s2 := N2a.le
      have I1 := Lib.hid (I1.out.new N2a)
      have N2 := Lib.hid (N1.out.trans N2a); clear N2a
      go_wp2_with fail
      refine (NaturalSize_any B1 m1 d1 zs 0 (by omega) _ I1.out).mono ?_
      rw [WA.out, HA.out, OA.out]
      rintro e w3 ⟨rfl, N3a⟩
      have s3 := N3a.le
      have I1 := Lib.hid (I1.out.new N3a)
      have N3 := Lib.hid (N2.out.trans N3a); clear N3a
      go_wp2_with fail
      refine (SFitsIn_any B1 m1 d1 zs x y (by omega) _ I1.out).mono ?_
      rw [EF.out]
      rintro e w4 ⟨rfl, N4a⟩
      have s4 := N4a.le
      have I1 := Lib.hid (I1.out.new N4a)
      have N4 := Lib.hid (N3.out.trans N4a); clear N4a
      go_wp2_with fail
      refine (FitsIn_any B1 m1 d1 zs X Y (by omega) _ I1.out).mono ?_
      rw [E1.out]
      rintro e w5 ⟨rfl, N5a⟩
      have s5 := N5a.le
      have I1 := Lib.hid (I1.out.new N5a)
      have N5 := Lib.hid (N4.out.trans N5a); clear N5a
      go_wp2_with fail
      refine (FitsIn_any B1 m1 d1 zs (X - 1) Y (by omega) _ I1.out).mono ?_
      rw [E2.out]
      rintro e w6 ⟨rfl, N6a⟩
      have s6 := N6a.le
      have I1 := Lib.hid (I1.out.new N6a)
      have N6 := Lib.hid (N5.out.trans N6a); clear N6a
      go_wp2_with fail
      refine (FitsIn_any B1 m1 d1 zs X (Y - 1) (by omega) _ I1.out).mono ?_
      rw [E3.out]
      rintro e w7 ⟨rfl, N7a⟩
      have s7 := N7a.le
      have I1 := Lib.hid (I1.out.new N7a)
      have N7 := Lib.hid (N6.out.trans N7a); clear N7a
      go_wp2
      go_ret
      exact ⟨rfl, N7.out⟩
    · have EF := Lib.hid (show fitB m1 zs x y = false by rw [FF]; simp; omega)
      clear FF hv
      have H9 := Lib.hid (show decide (Y ≤ y) = false from decide_eq_false (by omega))
      go_wp2_with fail
      refine (FitsIn_any B1 m1 d1 zs x y (by omega) _ I1.out).mono ?_
      rw [EF.out]
      rintro e w2 ⟨rfl, N2a⟩
      have s2 := N2a.le
      have I1 := Lib.hid (I1.out.new N2a)
      have N2 := Lib.hid (N1.out.trans N2a); clear N2a
      go_wp2_with fail
      refine (NaturalSize_any B1 m1 d1 zs 0 (by omega) _ I1.out).mono ?_
      rw [WA.out, HA.out, OA.out]
      rintro e w3 ⟨rfl, N3a⟩
      have s3 := N3a.le
      have I1 := Lib.hid (I1.out.new N3a)
      have N3 := Lib.hid (N2.out.trans N3a); clear N3a
      go_wp2_with fail
      refine (SFitsIn_any B1 m1 d1 zs x y (by omega) _ I1.out).mono ?_
      rw [EF.out]
      rintro e w4 ⟨rfl, N4a⟩
      have s4 := N4a.le
      have I1 := Lib.hid (I1.out.new N4a)
      have N4 := Lib.hid (N3.out.trans N4a); clear N4a
      go_wp2_with fail
      refine (FitsIn_any B1 m1 d1 zs X Y (by omega) _ I1.out).mono ?_
      rw [E1.out]
      rintro e w5 ⟨rfl, N5a⟩
      have s5 := N5a.le
      have I1 := Lib.hid (I1.out.new N5a)
      have N5 := Lib.hid (N4.out.trans N5a); clear N5a
      go_wp2_with fail
      refine (FitsIn_any B1 m1 d1 zs (X - 1) Y (by omega) _ I1.out).mono ?_
      rw [E2.out]
      rintro e w6 ⟨rfl, N6a⟩
      have s6 := N6a.le
      have I1 := Lib.hid (I1.out.new N6a)
      have N6 := Lib.hid (N5.out.trans N6a); clear N6a
      go_wp2_with fail
      refine (FitsIn_any B1 m1 d1 zs X (Y - 1) (by omega) _ I1.out).mono ?_
      rw [E3.out]
      rintro e w7 ⟨rfl, N7a⟩
      have s7 := N7a.le
      have I1 := Lib.hid (I1.out.new N7a)
      have N7 := Lib.hid (N6.out.trans N7a); clear N7a
      go_wp2
      go_ret
      exact ⟨by rw [H9.out]; rfl, N7.out⟩
    · have EF := Lib.hid (show fitB m1 zs x y = true by rw [FF]; simp; omega)
      clear FF hv
      go_wp2_with fail
      refine (FitsIn_any B1 m1 d1 zs x y (by omega) _ I1.out).mono ?_
      rw [EF.out]
      rintro e w2 ⟨rfl, N2a⟩
      have s2 := N2a.le
      have I1 := Lib.hid (I1.out.new N2a)
      have N2 := Lib.hid (N1.out.trans N2a); clear N2a
      go_wp2_with fail
      refine (NaturalSize_any B1 m1 d1 zs 0 (by omega) _ I1.out).mono ?_
      rw [WA.out, HA.out, OA.out]
      rintro e w3 ⟨rfl, N3a⟩
      have s3 := N3a.le
      have I1 := Lib.hid (I1.out.new N3a)
      have N3 := Lib.hid (N2.out.trans N3a); clear N3a
      go_wp2_with fail
      refine (SFitsIn_any B1 m1 d1 zs x y (by omega) _ I1.out).mono ?_
      rw [EF.out]
      rintro e w4 ⟨rfl, N4a⟩
      have s4 := N4a.le
      have I1 := Lib.hid (I1.out.new N4a)
      have N4 := Lib.hid (N3.out.trans N4a); clear N4a
      go_wp2_with fail
      refine (FitsIn_any B1 m1 d1 zs X Y (by omega) _ I1.out).mono ?_
      rw [E1.out]
      rintro e w5 ⟨rfl, N5a⟩
      have s5 := N5a.le
      have I1 := Lib.hid (I1.out.new N5a)
      have N5 := Lib.hid (N4.out.trans N5a); clear N5a
      go_wp2_with fail
      refine (FitsIn_any B1 m1 d1 zs (X - 1) Y (by omega) _ I1.out).mono ?_
      rw [E2.out]
      rintro e w6 ⟨rfl, N6a⟩
      have s6 := N6a.le
      have I1 := Lib.hid (I1.out.new N6a)
      have N6 := Lib.hid (N5.out.trans N6a); clear N6a
      go_wp2_with fail
      refine (FitsIn_any B1 m1 d1 zs X (Y - 1) (by omega) _ I1.out).mono ?_
      rw [E3.out]
      rintro e w7 ⟨rfl, N7a⟩
      have s7 := N7a.le
      have I1 := Lib.hid (I1.out.new N7a)
      have N7 := Lib.hid (N6.out.trans N7a); clear N7a
      go_wp2
      go_ret
      exact ⟨rfl, N7.out⟩
end Go.Proofs.Ytecoicnpileegaa
