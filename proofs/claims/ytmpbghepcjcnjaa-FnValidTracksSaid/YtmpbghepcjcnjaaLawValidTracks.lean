/- The law FnValidTracks, walked: a valid row is valid without its last and without its first. Condition: the code can be read. -/
import Derived.Test.YtmpbghepcjcnjaaDrawTk
import Derived.Test.YtmpbghepcjcnjaaTrkP
import Derived.Test.YtmpbghepcjcnjaaTrkV
namespace Go.Proofs.Ytmpbghepcjcnjaa
open Go.RowKit

set_option maxHeartbeats 4000000 in
theorem lawValidTracks (A : Option Addr) (n c : Nat) (hn : n ≤ maxLen) (hnc : n ≤ c) (w : World) (hb : Bytes w A n) :
    Calls Try.prog 13 #[.slice A n c] w fun e w' => e = .returned (.bool true) ∧ New w w' := by
  have HB := Lib.hid hb; have HM := Lib.hid hn
  clear hb
  unfold maxLen at hn
  by_cases hbig : 1048576 < n
  · go_enter Try.func13, Try.ntmps13
    go_wp2
    go_ret
    exact ⟨rfl, by (repeat (first | exact New.refl _ | assumption | refine New.alloc ?_ _ | refine New.drew ?_ | refine New.drewN ?_ _ | refine New.setCell ?_ (by first | omega | (simp; omega) | (simp; done)) _ | refine New.trans ?_ (by assumption)))⟩
  have hm : (n : Int) ≤ 1048576 := by omega
  have hm0 : (0 : Int) ≤ (n : Int) := by omega
  go_enter Try.func13, Try.ntmps13
  go_wp2_with fail
  refine (DrawValidTracks_any A n c HM.out hnc _ HB.out).mono ?_
  rintro e w1 ⟨B1, m1, d1, ys, rfl, I1, mc, m9, _, N1a⟩
  have s1 := N1a.le
  have N1 := Lib.hid ((New.refl w).trans N1a); clear N1a
  have I1 := Lib.hid I1
  have y0 : (0 : Int) ≤ (m1 : Int) := by omega
  have y1 : (m1 : Int) ≤ 9 := by omega
  cases hv : trsB m1 ys
  · have HV := Lib.hid hv; clear hv
    go_wp2_with fail
    refine (ValidTracks_any B1 m1 d1 ys (by omega) _ I1.out).mono ?_
    (rw [HV.out]; rintro e w2 ⟨rfl, N2a⟩)
    have s2 := N2a.le
    have I1 := Lib.hid (I1.out.new N2a)
    have N2 := Lib.hid (N1.out.trans N2a); clear N2a
    go_wp2_with fail
    refine (SValidTracks_any B1 m1 d1 ys (by omega) _ I1.out).mono ?_
    (rw [HV.out]; rintro e w3 ⟨rfl, N3a⟩)
    have s3 := N3a.le
    have I1 := Lib.hid (I1.out.new N3a)
    have N3 := Lib.hid (N2.out.trans N3a); clear N3a
    go_wp2_with fail
    refine (SValidTracks_any B1 m1 d1 ys (by omega) _ I1.out).mono ?_
    (rw [HV.out]; rintro e w4 ⟨rfl, N4a⟩)
    have s4 := N4a.le
    have I1 := Lib.hid (I1.out.new N4a)
    have N4 := Lib.hid (N3.out.trans N4a); clear N4a
    go_wp2
    go_ret
    exact ⟨rfl, N4.out⟩
  · have HV := Lib.hid hv
    have m18 := (trsB_iff.1 hv).1
    by_cases h2 : m1 < 2
    · obtain rfl : m1 = 1 := by omega
      clear hv
      go_wp2_with fail
      refine (ValidTracks_any B1 1 d1 ys (by omega) _ I1.out).mono ?_
      (rw [HV.out]; rintro e w2 ⟨rfl, N2a⟩)
      have s2 := N2a.le
      have I1 := Lib.hid (I1.out.new N2a)
      have N2 := Lib.hid (N1.out.trans N2a); clear N2a
      go_wp2_with fail
      refine (SValidTracks_any B1 1 d1 ys (by omega) _ I1.out).mono ?_
      (rw [HV.out]; rintro e w3 ⟨rfl, N3a⟩)
      have s3 := N3a.le
      have I1 := Lib.hid (I1.out.new N3a)
      have N3 := Lib.hid (N2.out.trans N3a); clear N3a
      go_wp2_with fail
      refine (SValidTracks_any B1 1 d1 ys (by omega) _ I1.out).mono ?_
      (rw [HV.out]; rintro e w4 ⟨rfl, N4a⟩)
      have s4 := N4a.le
      have I1 := Lib.hid (I1.out.new N4a)
      have N4 := Lib.hid (N3.out.trans N4a); clear N4a
      go_wp2
      go_ret
      exact ⟨rfl, N4.out⟩
    · obtain ⟨q, rfl⟩ : ∃ q, m1 = q + 1 := ⟨m1 - 1, by omega⟩
      have H1 := Lib.hid (trsB_head hv (by omega)); have H2 := Lib.hid (trsB_tail hv (by omega))
      obtain ⟨b, off, rfl, hb, _⟩ := I1.out.at_ (by omega)
      have J1 := Lib.hid (stsHead I1.out); have J2 := Lib.hid (stsTail I1.out)
      clear hv hb
      have q0 : (1 : Int) ≤ (q : Int) := by omega
      have q8 : (q : Int) ≤ 7 := by omega
      have d2 : d1 ≠ 1 := by omega
      go_wp2_with fail
      refine (ValidTracks_any (some ⟨b, off, none⟩) (q + 1) d1 ys (by omega) _ I1.out).mono ?_
      (rw [HV.out]; rintro e w2 ⟨rfl, N2a⟩)
      have s2 := N2a.le
      have I1 := Lib.hid (I1.out.new N2a)
      have J1 := Lib.hid (J1.out.new N2a)
      have J2 := Lib.hid (J2.out.new N2a)
      have N2 := Lib.hid (N1.out.trans N2a); clear N2a
      go_wp2_with fail
      refine (SValidTracks_any (some ⟨b, off, none⟩) (q + 1) d1 ys (by omega) _ I1.out).mono ?_
      (rw [HV.out]; rintro e w3 ⟨rfl, N3a⟩)
      have s3 := N3a.le
      have I1 := Lib.hid (I1.out.new N3a)
      have J1 := Lib.hid (J1.out.new N3a)
      have J2 := Lib.hid (J2.out.new N3a)
      have N3 := Lib.hid (N2.out.trans N3a); clear N3a
      go_wp2_with fail
      refine (ValidTracks_any _ q _ (ys.take (q * 2)) (by omega) _ J1.out).mono ?_
      (rw [H1.out]; rintro e w4 ⟨rfl, N4a⟩)
      have s4 := N4a.le
      have I1 := Lib.hid (I1.out.new N4a)
      have J1 := Lib.hid (J1.out.new N4a)
      have J2 := Lib.hid (J2.out.new N4a)
      have N4 := Lib.hid (N3.out.trans N4a); clear N4a
      go_wp2_with fail
      refine (ValidTracks_any _ q _ (ys.drop 2) (by omega) _ J2.out).mono ?_
      (rw [H2.out]; rintro e w5 ⟨rfl, N5a⟩)
      have s5 := N5a.le
      have I1 := Lib.hid (I1.out.new N5a)
      have J1 := Lib.hid (J1.out.new N5a)
      have J2 := Lib.hid (J2.out.new N5a)
      have N5 := Lib.hid (N4.out.trans N5a); clear N5a
      go_wp2
      go_ret
      exact ⟨rfl, N5.out⟩
end Go.Proofs.Ytmpbghepcjcnjaa
