/- The law FnNextLeafNone, walked: there is no next leaf just where no box is a leaf. Condition: the code can be read. -/
import Derived.Test.YtohjfddmnhnfjaaDrawPt
import Derived.Test.YtohjfddmnhnfjaaPathP
namespace Go.Proofs.Ytohjfddmnhnfjaa
open Go.RowKit

set_option maxHeartbeats 4000000 in
theorem lawNextLeafNone (A : Option Addr) (n c : Nat) (hn : n ≤ maxLen) (hnc : n ≤ c) (w : World) (hb : Bytes w A n) :
    Calls Try.prog 14 #[.slice A n c] w fun e w' => e = .returned (.bool true) ∧ New w w' := by
  have HB := Lib.hid hb; have HM := Lib.hid hn
  clear hb
  unfold maxLen at hn
  by_cases hbig : 1048576 < n
  · go_enter Try.func14, Try.ntmps14
    go_wp2
    go_ret
    exact ⟨rfl, by (repeat (first | exact New.refl _ | assumption | refine New.alloc ?_ _ | refine New.drew ?_ | refine New.drewN ?_ _ | refine New.setCell ?_ (by first | omega | (simp; omega) | (simp; done)) _ | refine New.trans ?_ (by assumption)))⟩
  have hm : (n : Int) ≤ 1048576 := by omega
  have hm0 : (0 : Int) ≤ (n : Int) := by omega
  go_enter Try.func14, Try.ntmps14
  go_wp2_with fail
  refine (DrawNextLeaf_any A n c HM.out hnc _ HB.out).mono ?_
  rintro e w1 ⟨B1, m1, d1, zs, x, rfl, I1, l1, kd, xb, N1a⟩
  have s1 := N1a.le
  have N1 := Lib.hid ((New.refl w).trans N1a); clear N1a
  replace I1 := Lib.hid I1
  by_cases hok : nodeOk m1 zs x = true
  · obtain ⟨hv, a, rfl, ha⟩ := nodeOk_iff.1 hok
    have HV := Lib.hid hv; have v1 := (vtB_iff.1 hv).1
    have a0 : (0 : Int) ≤ (a : Int) := by omega
    have a1 : (a : Int) < (m1 : Int) := by omega
    clear hok xb
    have EN := Lib.hid (show nlA m1 zs (a : Int) = nlf zs m1 a 0 by unfold nlA; rw [if_pos (nodeOk_iff.2 ⟨hv, a, rfl, ha⟩), Int.toNat_natCast])
    have ED := Lib.hid (depA_at hv ha)
    have u0 : (0 : Int) ≤ (dep zs a : Int) := by omega
    generalize dep zs a = D at *
    have NO := Lib.hid (nlf_none (zs := zs) (i := a) (show 0 < m1 by omega))
    obtain ⟨z, hz⟩ : ∃ z, nlf zs m1 a 0 = z := ⟨_, rfl⟩
    rw [hz] at NO
    have HZ := Lib.hid hz
    clear hv hz
    go_wp2_with fail
    refine (NextLeaf_any B1 m1 d1 zs (a : Int) (by omega) _ I1.out).mono ?_
    rw [EN.out, HZ.out]
    rintro e w2 ⟨rfl, N2a⟩
    have s2 := N2a.le
    have I1 := Lib.hid (I1.out.new N2a)
    have N2 := Lib.hid (N1.out.trans N2a); clear N2a
    go_wp2_with fail
    refine (SNextLeaf_any B1 m1 d1 zs (a : Int) (by omega) _ I1.out).mono ?_
    rw [EN.out, HZ.out]
    rintro e w3 ⟨rfl, N3a⟩
    have s3 := N3a.le
    have I1 := Lib.hid (I1.out.new N3a)
    have N3 := Lib.hid (N2.out.trans N3a); clear N3a
    go_wp2_with fail
    refine (DepthOf_any B1 m1 d1 zs (a : Int) (by omega) _ I1.out).mono ?_
    rw [ED.out]
    rintro e w4 ⟨rfl, N4a⟩
    have s4 := N4a.le
    have I1 := Lib.hid (I1.out.new N4a)
    have N4 := Lib.hid (N3.out.trans N4a); clear N4a
    have NN := Lib.hid N4.out
    obtain ⟨b, off, rfl, hb, hc⟩ := I1.out.at_ (by omega)
    have HC := Lib.hid hc
    clear hc
    go_wp2
    go_loopw [6, 7] (fun v i wr => wr = w4 ∧ ∃ (j : Nat) (t : Bool), j ≤ m1 ∧ i = .int .i64 j ∧ v = .bool t ∧ Hid (t = false ↔ ∀ x, x < j → knd zs x ≠ 0)) (fun _ i _ => m1 - (intOf i).toNat)
    case atStart => exact ⟨rfl, 0, false, Nat.zero_le _, rfl, rfl, Lib.hid ⟨fun _ x hx => by omega, fun _ => rfl⟩⟩
    case round =>
      obtain ⟨rfl, j, t, hj, rfl, rfl, HT⟩ := hrel
      have j0 : (0 : Int) ≤ (j : Int) := by omega
      by_cases hlt : j < m1
      · have j1 : (j : Int) < (m1 : Int) := by omega
        have g1 := HC.out (j * 9 + 1) (by omega)
        rw [← Nat.add_assoc] at g1
        obtain ⟨kz, hkz⟩ : ∃ kz, zs.getD (j * 9 + 1) 0 = kz := ⟨_, rfl⟩
        rw [hkz] at g1
        have HKZ := Lib.hid (show knd zs j = kz from hkz)
        clear hkz
        cases t
        · by_cases hk : kz = 0
          · subst hk
            go_wp2
            go_roundw
            case rel => exact ⟨trivial, j + 1, true, by omega, by go_num, rfl, Lib.hid ⟨(by simp), fun h => absurd HKZ.out (h j (by omega))⟩⟩
            case measure => simp [intOf]; omega
          · have HK := Lib.hid hk
            have kb : (kz == 0) = false := by simpa using hk
            clear hk
            go_wp2
            go_roundw
            case rel =>
              refine ⟨trivial, j + 1, false, by omega, by go_num, rfl, Lib.hid ⟨fun _ x hx => ?_, fun _ => rfl⟩⟩
              rcases Nat.lt_or_ge x j with h1 | h1
              · exact HT.out.1 rfl x h1
              · obtain rfl : x = j := by omega
                rw [HKZ.out]; exact HK.out
            case measure => simp [intOf]; omega
        · go_wp2
          go_roundw
          case rel =>
            refine ⟨trivial, j + 1, true, by omega, by go_num, rfl, Lib.hid ⟨(by simp), fun h => ?_⟩⟩
            exact HT.out.2 fun x hx => h x (by omega)
          case measure => simp [intOf]; omega
      · obtain rfl : m1 = j := by omega
        cases t
        · have hz := NO.out.2 (HT.out.1 rfl)
          subst hz
          go_wp2
          go_ret
          exact ⟨rfl, NN.out⟩
        · have hz : z ≠ -1 := fun e => absurd (HT.out.2 (NO.out.1 e)) (by simp)
          have zb : (z == -1) = false := by simpa using hz
          clear hz
          go_wp2
          go_ret
          exact ⟨rfl, NN.out⟩
  · have hok' : nodeOk m1 zs x = false := by simpa using hok
    clear hok
    have EA := Lib.hid (show nlA m1 zs x = -1 by unfold nlA; rw [hok']; rfl); have ED := Lib.hid (depA_no hok'); clear hok'
    go_wp2_with fail
    refine (NextLeaf_any B1 m1 d1 zs x (by omega) _ I1.out).mono ?_
    rw [EA.out]
    rintro e w2 ⟨rfl, N2a⟩
    have s2 := N2a.le
    have I1 := Lib.hid (I1.out.new N2a)
    have N2 := Lib.hid (N1.out.trans N2a); clear N2a
    go_wp2_with fail
    refine (SNextLeaf_any B1 m1 d1 zs x (by omega) _ I1.out).mono ?_
    rw [EA.out]
    rintro e w3 ⟨rfl, N3a⟩
    have s3 := N3a.le
    have I1 := Lib.hid (I1.out.new N3a)
    have N3 := Lib.hid (N2.out.trans N3a); clear N3a
    go_wp2_with fail
    refine (DepthOf_any B1 m1 d1 zs x (by omega) _ I1.out).mono ?_
    rw [ED.out]
    rintro e w4 ⟨rfl, N4a⟩
    have s4 := N4a.le
    have I1 := Lib.hid (I1.out.new N4a)
    have N4 := Lib.hid (N3.out.trans N4a); clear N4a
    go_wp2_with fail
    refine (SNextLeaf_any B1 m1 d1 zs x (by omega) _ I1.out).mono ?_
    rw [EA.out]
    rintro e w5 ⟨rfl, N5a⟩
    have s5 := N5a.le
    have I1 := Lib.hid (I1.out.new N5a)
    have N5 := Lib.hid (N4.out.trans N5a); clear N5a
    go_wp2
    go_ret
    exact ⟨rfl, N5.out⟩
end Go.Proofs.Ytohjfddmnhnfjaa
