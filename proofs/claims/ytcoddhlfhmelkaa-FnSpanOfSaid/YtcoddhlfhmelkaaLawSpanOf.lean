/- The law FnSpanOf, walked: one track more ends a gap and this track later. Condition: the code can be read. -/
import Derived.Test.YtcoddhlfhmelkaaDrawTk
import Derived.Test.YtcoddhlfhmelkaaSpnP
import Derived.Test.YtcoddhlfhmelkaaSpnI
import Derived.Test.YtcoddhlfhmelkaaSpnS
namespace Go.Proofs.Ytcoddhlfhmelkaa
open Go.RowKit

set_option maxHeartbeats 4000000 in
theorem lawSpanOf (A : Option Addr) (n c : Nat) (hn : n ≤ maxLen) (hnc : n ≤ c) (w : World) (hb : Bytes w A n) :
    Calls Try.prog 10 #[.slice A n c] w fun e w' => e = .returned (.bool true) ∧ New w w' := by
  have HB := Lib.hid hb; have HM := Lib.hid hn
  clear hb
  unfold maxLen at hn
  by_cases hbig : 1048576 < n
  · go_enter Try.func10, Try.ntmps10
    go_wp2
    go_ret
    exact ⟨rfl, by (repeat (first | exact New.refl _ | assumption | refine New.alloc ?_ _ | refine New.drew ?_ | refine New.drewN ?_ _ | refine New.setCell ?_ (by first | omega | (simp; omega) | (simp; done)) _ | refine New.trans ?_ (by assumption)))⟩
  have hm : (n : Int) ≤ 1048576 := by omega
  have hm0 : (0 : Int) ≤ (n : Int) := by omega
  go_enter Try.func10, Try.ntmps10
  go_wp2_with fail
  refine (DrawSpanOf_any A n c HM.out hnc _ HB.out).mono ?_
  rintro e w1 ⟨B1, m1, d1, ys, sp, gp, f, g, rfl, I1, dc, l1, T1, sb, gb, fb, mb, N1a⟩
  have s1 := N1a.le
  have N1 := Lib.hid ((New.refl w).trans N1a); clear N1a
  replace I1 := Lib.hid I1
  clear T1 dc
  obtain ⟨fb0, fb1⟩ := fb
  obtain ⟨mb0, mb1⟩ := mb
  have y0 : (0 : Int) ≤ (m1 : Int) := by omega
  have y1 : (m1 : Int) ≤ 9 := by omega
  have C1 := Lib.hid (fun W (hW : New w1 W) => SpanOf_any B1 m1 d1 ys sp gp f g (by omega) W (I1.out.new hW))
  have C2 := Lib.hid (fun W (hW : New w1 W) => SSpanOf_any B1 m1 d1 ys sp gp f g (by omega) W (I1.out.new hW))
  cases hk : spOk (tsA m1 ys sp gp) f g
  · simp only [hk, spA_no hk, spS_no hk] at C1 C2
    clear hk
    go_wp2_with fail
    refine (C1.out _ (New.refl _)).mono ?_
    rintro e w2 ⟨rfl, N2a⟩
    have s2 := N2a.le
    have NA := Lib.hid N2a; have N2 := Lib.hid (N1.out.trans N2a); clear N2a
    go_wp2_with fail
    refine (C2.out _ NA.out).mono ?_
    rintro e w3 ⟨rfl, N3a⟩
    have s3 := N3a.le
    have N3 := Lib.hid (N2.out.trans N3a); clear N3a
    go_wp2
    go_ret
    exact ⟨rfl, N3.out⟩
  have GG := Lib.hid (fun (h : 0 < (tsA m1 ys sp gp).length) => (tsOk_iff.1 (tsA_ok h)).2.2)
  have TB := Lib.hid (tsA_bd m1 ys sp gp)
  have TL := Lib.hid (tsA_len m1 ys sp gp)
  obtain ⟨⟨f0, f1⟩, m0, mm⟩ := spOk_iff.1 hk
  have hpos : 0 < (tsA m1 ys sp gp).length := by omega
  obtain ⟨hg0, hg1⟩ := GG.out hpos
  have nl : (tsA m1 ys sp gp).length = m1 := by unfold tsA; rw [if_pos (tsA_ok hpos), tsL_len]
  obtain ⟨⟨a0, a1⟩, z0, z1⟩ := sp_bd TB.out TL.out ⟨hg0, hg1⟩ hk
  have CT := Lib.hid (fun W (hW : New w1 W) => TrackSizes_ans B1 m1 d1 ys sp gp (by omega) W (I1.out.new hW))
  simp only [hk] at C1 C2
  have C3 := Lib.hid (fun W (hW : New w1 W) => SpanOf_any B1 m1 d1 ys sp gp f (g + 1) (by omega) W (I1.out.new hW))
  cases hk2 : spOk (tsA m1 ys sp gp) f (g + 1)
  · have e1 : f + g = (m1 : Int) := by
      have h := hk2
      unfold spOk at h
      rw [decide_eq_true ⟨f0, f1⟩, Bool.true_and, decide_eq_false_iff_not] at h
      omega
    have q1 : (f + g == (m1 : Int)) = true := by simp [e1]
    have CT1 : Hid (∀ W, New w1 W → Calls Try.prog 25 #[.slice B1 m1 d1, .int .i64 sp, .int .i64 gp] W fun e w' => ∃ A4 c4, e = .returned (.slice A4 m1 c4) ∧ New W w') := Lib.hid (fun W hW => (CT.out W hW).mono (by
      rintro e w4 ⟨A4, n4, c4, rfl, l4, r4, N4⟩
      obtain rfl : m1 = n4 := by omega
      exact ⟨A4, c4, rfl, N4⟩))
    simp only [hk2] at C3
    generalize spA (tsA m1 ys sp gp) gp f g = X at *
    generalize spS (tsA m1 ys sp gp) gp f g = Y at *
    generalize spA (tsA m1 ys sp gp) gp f (g + 1) = X2 at *
    generalize spS (tsA m1 ys sp gp) gp f (g + 1) = Y2 at *
    clear hk hk2 GG TB e1 CT
    go_wp2_with fail
    refine (C1.out _ (New.refl _)).mono ?_
    rintro e w2 ⟨rfl, N2a⟩
    have NA := Lib.hid N2a
    have N2 := Lib.hid (N1.out.trans N2a); clear N2a
    go_wp2_with fail
    refine (C2.out _ NA.out).mono ?_
    rintro e w3 ⟨rfl, N3a⟩
    have NB := Lib.hid (NA.out.trans N3a)
    have N3 := Lib.hid (N2.out.trans N3a); clear N3a
    go_wp2_with fail
    refine (CT1.out _ NB.out).mono ?_
    rintro e w4 ⟨A4, c4, rfl, N4a⟩
    have NC := Lib.hid (NB.out.trans N4a)
    have N4 := Lib.hid (N3.out.trans N4a); clear N4a
    go_wp2_with fail
    refine (C3.out _ NC.out).mono ?_
    rintro e w5 ⟨rfl, N5a⟩
    have N5 := Lib.hid (N4.out.trans N5a); clear N5a
    go_wp2
    go_ret
    exact ⟨rfl, N5.out⟩
  obtain ⟨e1, e2⟩ := sp_more (gap := gp) hk hk2
  simp only [hk2, e1, e2] at C3
  obtain ⟨_, m2, m3⟩ := spOk_iff.1 hk2
  obtain ⟨i, rfl⟩ := Int.eq_ofNat_of_zero_le f0
  obtain ⟨j, rfl⟩ := Int.eq_ofNat_of_zero_le (show 0 ≤ g by omega)
  have tn : ((i : Int) + (j : Int)).toNat = i + j := by omega
  rw [tn] at C3
  obtain ⟨b0, b1⟩ := TB.out (i + j)
  have i1 : (i : Int) + (j : Int) < (m1 : Int) := by omega
  have i2 : i + j < m1 := by omega
  have i0 : (0 : Int) ≤ (i : Int) + (j : Int) := by omega
  have dd1 : decide ((i : Int) + (j : Int) < (m1 : Int)) = true := decide_eq_true i1
  clear hk hk2 GG TB e1 e2
  have CT2 : Hid (∀ W, New w1 W → Calls Try.prog 25 #[.slice B1 m1 d1, .int .i64 sp, .int .i64 gp] W fun e w' => ∃ b off c, e = .returned (.slice (some ⟨b, off, none⟩) m1 c) ∧ b < w'.heap.size ∧ w'.cell? ⟨b, off + (i + j), none⟩ = some (.int .i64 ((tsA m1 ys sp gp).getD (i + j) 0)) ∧ New W w') := Lib.hid (fun W hW => (CT.out W hW).mono (by
    rintro e w4 ⟨A4, n4, c4, rfl, l4, r4, N4⟩
    obtain rfl : m1 = n4 := by omega
    obtain ⟨b, off, rfl, hb, hc⟩ := (r4.ints l4).at_ (by omega)
    exact ⟨b, off, c4, rfl, hb, hc (i + j) i2, N4⟩))
  generalize spA (tsA m1 ys sp gp) gp (i : Int) (j : Int) = X at *
  generalize spS (tsA m1 ys sp gp) gp (i : Int) (j : Int) = Y at *
  generalize (tsA m1 ys sp gp).getD (i + j) 0 = Z at *
  clear CT nl hpos f1 mm m3
  go_wp2_with fail
  refine (C1.out _ (New.refl _)).mono ?_
  rintro e w2 ⟨rfl, N2a⟩
  have NA := Lib.hid N2a
  have N2 := Lib.hid (N1.out.trans N2a); clear N2a
  go_wp2_with fail
  refine (C2.out _ NA.out).mono ?_
  rintro e w3 ⟨rfl, N3a⟩
  have NB := Lib.hid (NA.out.trans N3a)
  have N3 := Lib.hid (N2.out.trans N3a); clear N3a
  go_wp2_with fail
  refine (CT2.out _ NB.out).mono ?_
  rintro e w4 ⟨b, off, c4, rfl, hb, g4, N4a⟩
  have NC := Lib.hid (NB.out.trans N4a)
  have N4 := Lib.hid (N3.out.trans N4a); clear N4a
  go_wp2_with fail
  refine (C3.out _ NC.out).mono ?_
  rintro e w5 ⟨rfl, N5a⟩
  have g5 := (N5a.cells _ _ hb).trans g4
  have N5 := Lib.hid (N4.out.trans N5a); clear N5a
  go_wp2
  go_ret
  exact ⟨rfl, N5.out⟩
end Go.Proofs.Ytcoddhlfhmelkaa
