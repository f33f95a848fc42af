/- The law FnFitsInMore, walked: what fits in a screen fits in a wider and in a higher one. Condition: the code can be read. -/
import Derived.Test.YtecoicnpileegaaDrawFi
import Derived.Test.YtecoicnpileegaaNatP
namespace Go.Proofs.Ytecoicnpileegaa
open Go.RowKit

set_option maxHeartbeats 4000000 in
theorem lawFitsInMore (A : Option Addr) (n c : Nat) (hn : n ≤ maxLen) (hnc : n ≤ c) (w : World) (hb : Bytes w A n) :
    Calls Try.prog 11 #[.slice A n c] w fun e w' => e = .returned (.bool true) ∧ New w w' := by
  have HB := Lib.hid hb; have HM := Lib.hid hn
  clear hb
  unfold maxLen at hn
  by_cases hbig : 1048576 < n
  · go_enter Try.func11, Try.ntmps11
    go_wp2
    go_ret
    exact ⟨rfl, by (repeat (first | exact New.refl _ | assumption | refine New.alloc ?_ _ | refine New.drew ?_ | refine New.drewN ?_ _ | refine New.setCell ?_ (by first | omega | (simp; omega) | (simp; done)) _ | refine New.trans ?_ (by assumption)))⟩
  have hm : (n : Int) ≤ 1048576 := by omega
  have hm0 : (0 : Int) ≤ (n : Int) := by omega
  go_enter Try.func11, Try.ntmps11
  go_wp2_with fail
  refine (DrawFitsIn_any A n c HM.out hnc _ HB.out).mono ?_
  rintro e w1 ⟨B1, m1, d1, zs, x, y, rfl, I1, l1, kd, xb, yb, N1a⟩
  have s1 := N1a.le
  have N1 := Lib.hid ((New.refl w).trans N1a); clear N1a
  replace I1 := Lib.hid I1
  cases hf : fitB m1 zs x y
  · have EF := Lib.hid hf; clear hf
    go_wp2_with fail
    refine (FitsIn_any B1 m1 d1 zs x y (by omega) _ I1.out).mono ?_
    rw [EF.out]
    rintro e w2 ⟨rfl, N2a⟩
    have s2 := N2a.le
    have I1 := Lib.hid (I1.out.new N2a)
    have N2 := Lib.hid (N1.out.trans N2a); clear N2a
    go_wp2_with fail
    refine (SFitsIn_any B1 m1 d1 zs x y (by omega) _ I1.out).mono ?_
    rw [EF.out]
    rintro e w3 ⟨rfl, N3a⟩
    have s3 := N3a.le
    have I1 := Lib.hid (I1.out.new N3a)
    have N3 := Lib.hid (N2.out.trans N3a); clear N3a
    go_wp2_with fail
    refine (SFitsIn_any B1 m1 d1 zs x y (by omega) _ I1.out).mono ?_
    rw [EF.out]
    rintro e w4 ⟨rfl, N4a⟩
    have s4 := N4a.le
    have I1 := Lib.hid (I1.out.new N4a)
    have N4 := Lib.hid (N3.out.trans N4a); clear N4a
    go_wp2
    go_ret
    exact ⟨rfl, N4.out⟩
  · have EF := Lib.hid hf
    have E1 := Lib.hid (show fitB m1 zs (x + 5) y = true by
      unfold fitB at hf ⊢
      simp only [Bool.and_eq_true, decide_eq_true_eq] at hf ⊢
      exact ⟨⟨hf.1.1, by omega⟩, by omega⟩)
    have E2 := Lib.hid (show fitB m1 zs x (y + 5) = true by
      unfold fitB at hf ⊢
      simp only [Bool.and_eq_true, decide_eq_true_eq] at hf ⊢
      exact ⟨⟨hf.1.1, by omega⟩, by omega⟩)
    clear hf
    go_wp2_with fail
    refine (FitsIn_any B1 m1 d1 zs x y (by omega) _ I1.out).mono ?_
    rw [EF.out]
    rintro e w2 ⟨rfl, N2a⟩
    have s2 := N2a.le
    have I1 := Lib.hid (I1.out.new N2a)
    have N2 := Lib.hid (N1.out.trans N2a); clear N2a
    go_wp2_with fail
    refine (SFitsIn_any B1 m1 d1 zs x y (by omega) _ I1.out).mono ?_
    rw [EF.out]
    rintro e w3 ⟨rfl, N3a⟩
    have s3 := N3a.le
    have I1 := Lib.hid (I1.out.new N3a)
    have N3 := Lib.hid (N2.out.trans N3a); clear N3a
    go_wp2_with fail
    refine (FitsIn_any B1 m1 d1 zs (x + 5) y (by omega) _ I1.out).mono ?_
    rw [E1.out]
    rintro e w4 ⟨rfl, N4a⟩
    have s4 := N4a.le
    have I1 := Lib.hid (I1.out.new N4a)
    have N4 := Lib.hid (N3.out.trans N4a); clear N4a
    go_wp2_with fail
    refine (FitsIn_any B1 m1 d1 zs x (y + 5) (by omega) _ I1.out).mono ?_
    rw [E2.out]
    rintro e w5 ⟨rfl, N5a⟩
    have s5 := N5a.le
    have I1 := Lib.hid (I1.out.new N5a)
    have N5 := Lib.hid (N4.out.trans N5a); clear N5a
    go_wp2
    go_ret
    exact ⟨rfl, N5.out⟩
end Go.Proofs.Ytecoicnpileegaa
