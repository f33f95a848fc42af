/- The law FnNaturalSizePad, walked: a pad that is 1 greater makes a box 2 larger. Condition: the code can be read. -/
import Derived.Test.YtobnjagmakhgpaaYB
import Derived.Test.YtobnjagmakhgpaaZI
import Derived.Test.YtobnjagmakhgpaaZF
import Derived.Test.YtobnjagmakhgpaaPadP
import Derived.Test.YtobnjagmakhgpaaStyI
namespace Go.Proofs.Ytobnjagmakhgpaa
open Go.RowKit

set_option maxHeartbeats 4000000 in
theorem lawNaturalSizePad (A : Option Addr) (n c : Nat) (hn : n ≤ maxLen) (hnc : n ≤ c) (w : World) (hb : Bytes w A n) :
    Calls Try.prog 6 #[.slice A n c] w fun e w' => e = .returned (.bool true) ∧ New w w' := by
  have HB := Lib.hid hb; have HM := Lib.hid hn
  clear hb
  unfold maxLen at hn
  by_cases hbig : 1048576 < n
  · go_enter Try.func6, Try.ntmps6
    go_wp2
    go_ret
    exact ⟨rfl, by (repeat (first | exact New.refl _ | assumption | refine New.alloc ?_ _ | refine New.drew ?_ | refine New.drewN ?_ _ | refine New.setCell ?_ (by first | omega | (simp; omega) | (simp; done)) _ | refine New.trans ?_ (by assumption)))⟩
  have hm : (n : Int) ≤ 1048576 := by omega
  have hm0 : (0 : Int) ≤ (n : Int) := by omega
  go_enter Try.func6, Try.ntmps6
  go_wp2_with fail
  refine (DrawNaturalSize_any A n c HM.out hnc _ HB.out).mono ?_
  rintro e w1 ⟨B1, m1, d1, zs, x, rfl, I1, l1, kd, xb, N1a⟩
  have s1 := N1a.le
  have N1 := Lib.hid ((New.refl w).trans N1a); clear N1a
  replace I1 := Lib.hid I1
  by_cases hok : nodeOk m1 zs x = true
  · obtain ⟨hv, a, rfl, ha⟩ := nodeOk_iff.1 hok
    have HV := Lib.hid hv; have v1 := (vtB_iff.1 hv).1
    have a0 : (0 : Int) ≤ (a : Int) := by omega
    have a1 : (a : Int) < (m1 : Int) := by omega
    clear hok xb
    have WA := Lib.hid (natW_at hv ha); have HA := Lib.hid (natH_at hv ha); have OA := Lib.hid (nodeOk_iff.2 ⟨hv, a, rfl, ha⟩)
    have HL := Lib.hid I1.out.len
    obtain ⟨y0, hy0⟩ : ∃ y, zs.getD (a * 9) 0 = y := ⟨_, rfl⟩
    obtain ⟨y1, hy1⟩ : ∃ y, zs.getD (a * 9 + 1) 0 = y := ⟨_, rfl⟩
    obtain ⟨y2, hy2⟩ : ∃ y, zs.getD (a * 9 + 2) 0 = y := ⟨_, rfl⟩
    obtain ⟨y3, hy3⟩ : ∃ y, zs.getD (a * 9 + 3) 0 = y := ⟨_, rfl⟩
    obtain ⟨y4, hy4⟩ : ∃ y, zs.getD (a * 9 + 4) 0 = y := ⟨_, rfl⟩
    obtain ⟨y5, hy5⟩ : ∃ y, zs.getD (a * 9 + 5) 0 = y := ⟨_, rfl⟩
    obtain ⟨y6, hy6⟩ : ∃ y, zs.getD (a * 9 + 6) 0 = y := ⟨_, rfl⟩
    obtain ⟨y7, hy7⟩ : ∃ y, zs.getD (a * 9 + 7) 0 = y := ⟨_, rfl⟩
    obtain ⟨y8, hy8⟩ : ∃ y, zs.getD (a * 9 + 8) 0 = y := ⟨_, rfl⟩
    have pz := ((vtB_iff.1 hv).2 a ha).1.2.2.2.1
    have dd1 : decide (m1 ≤ a) = false := decide_eq_false (by omega)
    have dd2 : decide ((a : Int) < 0) = false := decide_eq_false (by omega)
    have dd3 : decide ((m1 : Int) ≤ (a : Int)) = false := decide_eq_false (by omega)
    rw [hy4] at pz
    obtain ⟨tok, HT⟩ : ∃ tok, Hid (styOk m1 zs (a : Int) y1 y2 y3 (y4 + 1) y5 y6 y7 y8 = tok) := ⟨_, Lib.hid rfl⟩
    have NP : Hid (tok = true → natL (styL zs a (par zs a) y1 y2 y3 (y4 + 1) y5 y6 y7 y8) m1 a = ((natL zs m1 a).1 + 2, (natL zs m1 a).2 + 2) ∧ vtB m1 (styL zs a (par zs a) y1 y2 y3 (y4 + 1) y5 y6 y7 y8) = true) := Lib.hid (fun ht => by
      have h := (styOk_valid (HT.out.trans ht)).2
      have h2 := h
      rw [← hy1, ← hy2, ← hy3, ← hy4, ← hy5] at h2
      have e := nat_pad HL.out hv ha h2
      rw [hy1, hy2, hy3, hy4, hy5] at e
      exact ⟨e, h⟩)
    obtain ⟨X, hX⟩ : ∃ X, (natL zs m1 a).1 = X := ⟨_, rfl⟩
    obtain ⟨Y, hY⟩ : ∃ Y, (natL zs m1 a).2 = Y := ⟨_, rfl⟩
    rw [hX, hY] at NP
    rw [hX] at WA
    rw [hY] at HA
    have sm := nat_sm hv ha
    rw [hX, hY] at sm
    have HV := Lib.hid hv
    clear hv hX hY
    have HY0 := Lib.hid hy0; clear hy0
    have HY1 := Lib.hid hy1; clear hy1
    have HY2 := Lib.hid hy2; clear hy2
    have HY3 := Lib.hid hy3; clear hy3
    have HY4 := Lib.hid hy4; clear hy4
    have HY5 := Lib.hid hy5; clear hy5
    have HY6 := Lib.hid hy6; clear hy6
    have HY7 := Lib.hid hy7; clear hy7
    have HY8 := Lib.hid hy8; clear hy8
    go_wp2_with fail
    refine (NaturalSize_any B1 m1 d1 zs (a : Int) (by omega) _ I1.out).mono ?_
    rw [WA.out, HA.out, OA.out]
    rintro e w2 ⟨rfl, N2a⟩
    have s2 := N2a.le
    have I1 := Lib.hid (I1.out.new N2a)
    have N2 := Lib.hid (N1.out.trans N2a); clear N2a
    go_wp2_with fail
    refine (SNaturalSize_any B1 m1 d1 zs (a : Int) (by omega) _ I1.out).mono ?_
    rw [WA.out, HA.out, OA.out]
    rintro e w3 ⟨rfl, N3a⟩
    have s3 := N3a.le
    have I1 := Lib.hid (I1.out.new N3a)
    have N3 := Lib.hid (N2.out.trans N3a); clear N3a
    obtain ⟨b, off, rfl, hb, hc⟩ := I1.out.at_ (by omega)
    have g0 := hc (a * 9) (by omega)
    rw [HY0.out] at g0
    have g1 := hc (a * 9 + 1) (by omega)
    rw [HY1.out, ← Nat.add_assoc] at g1
    have g2 := hc (a * 9 + 2) (by omega)
    rw [HY2.out, ← Nat.add_assoc] at g2
    have g3 := hc (a * 9 + 3) (by omega)
    rw [HY3.out, ← Nat.add_assoc] at g3
    have g4 := hc (a * 9 + 4) (by omega)
    rw [HY4.out, ← Nat.add_assoc] at g4
    have g5 := hc (a * 9 + 5) (by omega)
    rw [HY5.out, ← Nat.add_assoc] at g5
    have g6 := hc (a * 9 + 6) (by omega)
    rw [HY6.out, ← Nat.add_assoc] at g6
    have g7 := hc (a * 9 + 7) (by omega)
    rw [HY7.out, ← Nat.add_assoc] at g7
    have g8 := hc (a * 9 + 8) (by omega)
    rw [HY8.out, ← Nat.add_assoc] at g8
    clear hc
    have NN := N3.out
    have st := Lib.hid (New.refl w3)
    obtain ⟨sm0, sm1⟩ := sm.1; obtain ⟨sm2, sm3⟩ := sm.2
    clear sm
    go_wp2_with fail
    refine (StyleBox_ansT (some ⟨b, off, none⟩) m1 d1 zs (a : Int) y0 y1 y2 y3 (y4 + 1) y5 y6 y7 y8 (by omega) _ (I1.out.new (by (repeat (first | exact New.refl _ | assumption | refine New.alloc ?_ _ | refine New.drew ?_ | refine New.drewN ?_ _ | refine New.setCell ?_ (by first | omega | (simp; omega) | (simp; done)) _ | refine New.trans ?_ (by assumption)))))).mono ?_
    rw [HT.out]
    rintro e wk ⟨Ak, nk, ck, rfl, lk, rk, Nk⟩
    have NK := Lib.hid (NN.trans ((show New w3 _ by (repeat (first | exact New.refl _ | assumption | refine New.alloc ?_ _ | refine New.drew ?_ | refine New.drewN ?_ _ | refine New.setCell ?_ (by first | omega | (simp; omega) | (simp; done)) _ | refine New.trans ?_ (by assumption)))).trans Nk))
    clear Nk NN
    cases tok
    · have LE : styA m1 zs (a : Int) y1 y2 y3 (y4 + 1) y5 y6 y7 y8 = [] := by unfold styA; rw [HT.out]; rfl
      rw [LE] at lk rk
      obtain rfl : 0 = nk := by simp at lk; omega
      have C1 := NaturalSize_any Ak 0 ck [] (a : Int) (by omega) wk (Sts.of_res rk (by rfl))
      have no : nodeOk 0 [] (a : Int) = false := by cases h : nodeOk 0 [] (a : Int); rfl; obtain ⟨_, _, _, h4⟩ := nodeOk_iff.1 h; omega
      rw [natW_no no, natH_no no, no] at C1
      have C1 := Lib.hid C1
      clear LE no lk rk NP HT
      go_wp2_with fail
      refine C1.out.mono ?_
      rintro e wl ⟨rfl, Nl⟩
      have NL := Lib.hid (NK.out.trans Nl); clear Nl
      go_wp2
      go_ret
      exact ⟨by first | rfl | simp, NL.out⟩
    · have LE := styA_yes HT.out
      obtain ⟨e1, e2⟩ := NP.out rfl
      rw [LE] at lk rk
      obtain rfl : m1 = nk := by rw [styL_len, HL.out] at lk; omega
      have C1 := NaturalSize_any Ak m1 ck _ (a : Int) (by omega) wk (Sts.of_res rk lk)
      rw [natW_at e2 ha, natH_at e2 ha, e1, nodeOk_iff.2 ⟨e2, a, rfl, ha⟩] at C1
      dsimp only at C1
      have C1 := Lib.hid C1
      have q1 : (X + 2 == X + 2) = true := by simp
      have q2 : (Y + 2 == Y + 2) = true := by simp
      clear LE lk rk NP HT e1 e2
      go_wp2_with fail
      refine C1.out.mono ?_
      rintro e wl ⟨rfl, Nl⟩
      have NL := Lib.hid (NK.out.trans Nl); clear Nl
      go_wp2
      go_ret
      exact ⟨by first | rfl | simp, NL.out⟩
  · have hok' : nodeOk m1 zs x = false := by simpa using hok
    clear hok
    have WZ := Lib.hid (natW_no hok'); have HZ := Lib.hid (natH_no hok'); have OZ := Lib.hid hok'; clear hok'
    go_wp2_with fail
    refine (NaturalSize_any B1 m1 d1 zs x (by omega) _ I1.out).mono ?_
    rw [WZ.out, HZ.out, OZ.out]
    rintro e w2 ⟨rfl, N2a⟩
    have s2 := N2a.le
    have I1 := Lib.hid (I1.out.new N2a)
    have N2 := Lib.hid (N1.out.trans N2a); clear N2a
    go_wp2_with fail
    refine (SNaturalSize_any B1 m1 d1 zs x (by omega) _ I1.out).mono ?_
    rw [WZ.out, HZ.out, OZ.out]
    rintro e w3 ⟨rfl, N3a⟩
    have s3 := N3a.le
    have I1 := Lib.hid (I1.out.new N3a)
    have N3 := Lib.hid (N2.out.trans N3a); clear N3a
    go_wp2
    go_ret
    exact ⟨rfl, N3.out⟩
end Go.Proofs.Ytobnjagmakhgpaa
