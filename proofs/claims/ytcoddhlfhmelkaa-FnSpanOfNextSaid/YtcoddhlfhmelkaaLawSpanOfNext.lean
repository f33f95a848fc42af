/- The law FnSpanOfNext, walked: the next track begins a gap behind the end, the first at 0. Condition: the code can be read. -/
import Derived.Test.YtcoddhlfhmelkaaDrawTk
import Derived.Test.YtcoddhlfhmelkaaSpnP
import Derived.Test.YtcoddhlfhmelkaaSpnI
import Derived.Test.YtcoddhlfhmelkaaSpnS
namespace Go.Proofs.Ytcoddhlfhmelkaa
open Go.RowKit

set_option maxHeartbeats 4000000 in
theorem lawSpanOfNext (A : Option Addr) (n c : Nat) (hn : n ≤ maxLen) (hnc : n ≤ c) (w : World) (hb : Bytes w A n) :
    Calls Try.prog 11 #[.slice A n c] w fun e w' => e = .returned (.bool true) ∧ New w w' := by
  have HB := Lib.hid hb; have HM := Lib.hid hn
  clear hb
  unfold maxLen at hn
  by_cases hbig : 1048576 < n
  · go_enter Try.func11, Try.ntmps11
    go_wp2
    go_ret
    exact ⟨rfl, by (repeat (first | exact New.refl _ | assumption | refine New.alloc ?_ _ | refine New.drew ?_ | refine New.drewN ?_ _ | refine New.setCell ?_ (by first | omega | (simp; omega) | (simp; done)) _ | refine New.trans ?_ (by assumption)))⟩
  have hm : (n : Int) ≤ 1048576 := by omega
  have hm0 : (0 : Int) ≤ (n : Int) := by omega
  go_enter Try.func11, Try.ntmps11
  go_wp2_with fail
  refine (DrawSpanOf_any A n c HM.out hnc _ HB.out).mono ?_
  rintro e w1 ⟨B1, m1, d1, ys, sp, gp, f, g, rfl, I1, dc, l1, T1, sb, gb, fb, mb, N1a⟩
  have s1 := N1a.le
  have N1 := Lib.hid ((New.refl w).trans N1a); clear N1a
  replace I1 := Lib.hid I1
  clear T1 dc
  obtain ⟨fb0, fb1⟩ := fb
  obtain ⟨mb0, mb1⟩ := mb
  have y0 : (0 : Int) ≤ (m1 : Int) := by omega
  have y1 : (m1 : Int) ≤ 9 := by omega
  have C1 := Lib.hid (fun W (hW : New w1 W) => SpanOf_any B1 m1 d1 ys sp gp f g (by omega) W (I1.out.new hW))
  have C2 := Lib.hid (fun W (hW : New w1 W) => SSpanOf_any B1 m1 d1 ys sp gp f g (by omega) W (I1.out.new hW))
  cases hk : spOk (tsA m1 ys sp gp) f g
  · simp only [hk, spA_no hk, spS_no hk] at C1 C2
    clear hk
    go_wp2_with fail
    refine (C1.out _ (New.refl _)).mono ?_
    rintro e w2 ⟨rfl, N2a⟩
    have s2 := N2a.le
    have NA := Lib.hid N2a; have N2 := Lib.hid (N1.out.trans N2a); clear N2a
    go_wp2_with fail
    refine (C2.out _ NA.out).mono ?_
    rintro e w3 ⟨rfl, N3a⟩
    have s3 := N3a.le
    have N3 := Lib.hid (N2.out.trans N3a); clear N3a
    go_wp2
    go_ret
    exact ⟨rfl, N3.out⟩
  have GG := Lib.hid (fun (h : 0 < (tsA m1 ys sp gp).length) => (tsOk_iff.1 (tsA_ok h)).2.2)
  have TB := Lib.hid (tsA_bd m1 ys sp gp)
  have TL := Lib.hid (tsA_len m1 ys sp gp)
  obtain ⟨⟨f0, f1⟩, m0, mm⟩ := spOk_iff.1 hk
  have hpos : 0 < (tsA m1 ys sp gp).length := by omega
  obtain ⟨hg0, hg1⟩ := GG.out hpos
  have nl : (tsA m1 ys sp gp).length = m1 := by unfold tsA; rw [if_pos (tsA_ok hpos), tsL_len]
  obtain ⟨⟨a0, a1⟩, z0, z1⟩ := sp_bd TB.out TL.out ⟨hg0, hg1⟩ hk
  have CT := Lib.hid (fun W (hW : New w1 W) => TrackSizes_ans B1 m1 d1 ys sp gp (by omega) W (I1.out.new hW))
  simp only [hk] at C1 C2
  have C3 := Lib.hid (fun W (hW : New w1 W) => SpanOf_any B1 m1 d1 ys sp gp (f + g) 1 (by omega) W (I1.out.new hW))
  have C4 := Lib.hid (fun W (hW : New w1 W) => SpanOf_any B1 m1 d1 ys sp gp 0 1 (by omega) W (I1.out.new hW))
  obtain ⟨e1, e2⟩ := sp_first (xs := tsA m1 ys sp gp) (gap := gp) hpos
  simp only [e1, e2] at C4
  have HX : Hid (spOk (tsA m1 ys sp gp) (f + g) 1 = false ∨ (spOk (tsA m1 ys sp gp) (f + g) 1 = true ∧ spA (tsA m1 ys sp gp) gp (f + g) 1 = spA (tsA m1 ys sp gp) gp f g + spS (tsA m1 ys sp gp) gp f g + gp)) := Lib.hid (by
    cases hk2 : spOk (tsA m1 ys sp gp) (f + g) 1
    · exact .inl rfl
    · exact .inr ⟨rfl, sp_next hk hk2⟩)
  clear hk e1 e2 GG TB CT nl hpos mm f1
  generalize spA (tsA m1 ys sp gp) gp f g = X at *
  generalize spS (tsA m1 ys sp gp) gp f g = Y at *
  generalize spA (tsA m1 ys sp gp) gp (f + g) 1 = X2 at *
  generalize spS (tsA m1 ys sp gp) gp (f + g) 1 = Y2 at *
  generalize spS (tsA m1 ys sp gp) gp 0 1 = Y3 at *
  generalize spOk (tsA m1 ys sp gp) (f + g) 1 = bk at *
  rcases HX.out with rfl | ⟨rfl, rfl⟩
  all_goals
    go_wp2_with fail
    refine (C1.out _ (New.refl _)).mono ?_
    rintro e w2 ⟨rfl, N2a⟩
    have NA := Lib.hid N2a
    have N2 := Lib.hid (N1.out.trans N2a); clear N2a
    go_wp2_with fail
    refine (C2.out _ NA.out).mono ?_
    rintro e w3 ⟨rfl, N3a⟩
    have NB := Lib.hid (NA.out.trans N3a)
    have N3 := Lib.hid (N2.out.trans N3a); clear N3a
    go_wp2_with fail
    refine (C3.out _ NB.out).mono ?_
    rintro e w4 ⟨rfl, N4a⟩
    have NC := Lib.hid (NB.out.trans N4a)
    have N4 := Lib.hid (N3.out.trans N4a); clear N4a
    go_wp2_with fail
    refine (C4.out _ NC.out).mono ?_
    rintro e w5 ⟨rfl, N5a⟩
    have N5 := Lib.hid (N4.out.trans N5a); clear N5a
    go_wp2
    go_ret
    exact ⟨rfl, N5.out⟩
end Go.Proofs.Ytcoddhlfhmelkaa
