/- The law FnWrapParts, walked: no two rectangles have a common point, and each has its part's size. Condition: the code can be read. -/
import Derived.Test.YtpkajdnndognnaaDrawPl
import Derived.Test.YtpkajdnndognnaaPrtP
import Derived.Test.YtpkajdnndognnaaPrtR
import Derived.Test.YtpkajdnndognnaaPrtQ
import Derived.Test.YtpkajdnndognnaaRectQ
import Derived.Deep.QuietTactic
import Derived.BigQuiet
import Derived.Test.YtpkajdnndognnaaRectG
import Derived.Deep.RegionHeld3
namespace Go.Proofs.Ytpkajdnndognnaa
open Go.RowKit

set_option maxRecDepth 100000 in
set_option maxHeartbeats 4000000 in
theorem lawWrapParts (A : Option Addr) (n c : Nat) (hn : n ≤ maxLen) (hnc : n ≤ c) (w : World) (hb : Bytes w A n) :
    Calls Try.prog 5 #[.slice A n c] w fun e w' => e = .returned (.bool true) ∧ New w w' := by
  have HB := Lib.hid hb; have HM := Lib.hid hn
  clear hb
  unfold maxLen at hn
  by_cases hbig : 1048576 < n
  · go_enter Try.func5, Try.ntmps5
    go_wp2
    go_ret
    exact ⟨rfl, by (repeat (first | exact New.refl _ | assumption | refine New.alloc ?_ _ | refine New.drew ?_ | refine New.drewN ?_ _ | refine New.setCell ?_ (by first | omega | (simp; omega) | (simp; done)) _ | refine New.trans ?_ (by assumption)))⟩
  have hm : (n : Int) ≤ 1048576 := by omega
  have hm0 : (0 : Int) ≤ (n : Int) := by omega
  go_enter Try.func5, Try.ntmps5
  go_wp2_with fail
  refine (DrawWrapParts_any A n c HM.out hnc _ HB.out).mono ?_
  rintro e w1 ⟨B1, m1, d1, ys, wd, gp, rfl, I1, dc, l1, T1, wb, gb, N1a⟩
  have s1 := N1a.le
  have N1 := Lib.hid ((New.refl w).trans N1a); clear N1a
  replace I1 := Lib.hid I1; clear T1
  have y0 : (0 : Int) ≤ (m1 : Int) := by omega
  have y1 : (m1 : Int) ≤ 13 := by omega
  obtain ⟨nq, LQ, nq12⟩ : ∃ nq, Hid ((wpA ys m1 wd gp).length = nq * 4) ∧ nq ≤ 12 := by
    obtain ⟨m, h1, h2⟩ := wpA_len (zs := ys) (n := m1) (wd := wd) (gap := gp)
    exact ⟨m, Lib.hid h1, h2⟩
  have nqi : (nq : Int) ≤ 12 := by omega
  have nqj : (0 : Int) ≤ (nq : Int) := by omega
  rcases Nat.eq_zero_or_pos nq with h0 | h0
  · subst h0
    go_wp2_with fail
    refine (WrapParts_any B1 m1 d1 ys wd gp (by omega) dc _ I1.out).mono ?_
    rintro e w2 ⟨A2, n2, c2, rfl, l2, q2, r2, N2a⟩
    have s2 := N2a.le
    have I1 := Lib.hid (I1.out.new N2a)
    have N2 := Lib.hid (N1.out.trans N2a); clear N2a
    obtain rfl : 0 = n2 := by have := LQ.out; omega
    have R2 := Lib.hid r2; clear l2 r2
    go_wp2_with fail
    refine (SWrapParts_ans B1 m1 d1 ys wd gp (by omega) _ I1.out).mono ?_
    rintro e w3 ⟨A3, n3, c3, rfl, l3, q3, r3, N3a⟩
    have s3 := N3a.le
    have I1 := Lib.hid (I1.out.new N3a)
    have R2 := Lib.hid (R2.out.new N3a)
    have N3 := Lib.hid (N2.out.trans N3a); clear N3a
    obtain rfl : 0 = n3 := by have := LQ.out; omega
    have R3 := Lib.hid r3; clear l3 r3
    go_wp2_with fail
    refine (equalRects_same _ _ 0 _ _ _ (by omega) _ (Sts.of_res (m := 3) R2.out LQ.out) (Sts.of_res (m := 3) R3.out LQ.out)).mono ?_
    rintro e w4 ⟨rfl, N4a⟩
    have s4 := N4a.le
    have I1 := Lib.hid (I1.out.new N4a)
    have R2 := Lib.hid (R2.out.new N4a)
    have R3 := Lib.hid (R3.out.new N4a)
    have N4 := Lib.hid (N3.out.trans N4a); clear N4a
    go_wp2_with fail
    refine (SWrapParts_ans B1 m1 d1 ys wd gp (by omega) _ I1.out).mono ?_
    rintro e w5 ⟨A5, n5, c5, rfl, l5, q5, r5, N5a⟩
    have s5 := N5a.le
    have I1 := Lib.hid (I1.out.new N5a)
    have R2 := Lib.hid (R2.out.new N5a)
    have R3 := Lib.hid (R3.out.new N5a)
    have N5 := Lib.hid (N4.out.trans N5a); clear N5a
    obtain rfl : 0 = n5 := by have := LQ.out; omega
    have R5 := Lib.hid r5; clear l5 r5
    go_wp2_with fail
    refine (equalRects_same _ _ 0 _ _ _ (by omega) _ (Sts.of_res (m := 3) R2.out LQ.out) (Sts.of_res (m := 3) R5.out LQ.out)).mono ?_
    rintro e w6 ⟨rfl, N6a⟩
    have s6 := N6a.le
    have I1 := Lib.hid (I1.out.new N6a)
    have R2 := Lib.hid (R2.out.new N6a)
    have R3 := Lib.hid (R3.out.new N6a)
    have R5 := Lib.hid (R5.out.new N6a)
    have N6 := Lib.hid (N5.out.trans N6a); clear N6a
    go_wp2
    go_ret
    exact ⟨rfl, N6.out⟩
  have hok : wrOk ys m1 wd gp = true := by
    cases h : wrOk ys m1 wd gp
    · have := LQ.out; rw [wpA_no h] at this; simp at this; omega
    · rfl
  obtain rfl : nq = m1 := by have := LQ.out; rw [wpA_yes hok] at this; omega
  have nz0 : ((nq : Int) == 0) = false := by simp; omega
  go_wp2_with fail
  refine (WrapParts_any B1 nq d1 ys wd gp (by omega) dc _ I1.out).mono ?_
  rintro e w2 ⟨A2, n2, c2, rfl, l2, q2, r2, N2a⟩
  have s2 := N2a.le
  have I1 := Lib.hid (I1.out.new N2a)
  have N2 := Lib.hid (N1.out.trans N2a); clear N2a
  obtain rfl : nq = n2 := by have := LQ.out; omega
  have R2 := Lib.hid r2; clear l2 r2
  go_wp2_with fail
  refine (SWrapParts_ans B1 nq d1 ys wd gp (by omega) _ I1.out).mono ?_
  rintro e w3 ⟨A3, n3, c3, rfl, l3, q3, r3, N3a⟩
  have s3 := N3a.le
  have I1 := Lib.hid (I1.out.new N3a)
  have R2 := Lib.hid (R2.out.new N3a)
  have N3 := Lib.hid (N2.out.trans N3a); clear N3a
  obtain rfl : nq = n3 := by have := LQ.out; omega
  have R3 := Lib.hid r3; clear l3 r3
  go_wp2_with fail
  refine (equalRects_same _ _ nq _ _ _ (by omega) _ (Sts.of_res (m := 3) R2.out LQ.out) (Sts.of_res (m := 3) R3.out LQ.out)).mono ?_
  rintro e w4 ⟨rfl, N4a⟩
  have s4 := N4a.le
  have I1 := Lib.hid (I1.out.new N4a)
  have R2 := Lib.hid (R2.out.new N4a)
  have R3 := Lib.hid (R3.out.new N4a)
  have N4 := Lib.hid (N3.out.trans N4a); clear N4a
  obtain ⟨b, off, rfl, hb, hc⟩ := (Sts.of_res (m := 3) R2.out LQ.out).at_ (by omega)
  have GC := Lib.hid (fun i (hi : i < nq) V (hV : New w4 V) => (show V.cell? ⟨b, off + i * 4, none⟩ = some (.int .i64 (xq ys nq wd gp i)) ∧ V.cell? ⟨b, off + i * 4 + 1, none⟩ = some (.int .i64 (yq ys nq wd gp i)) ∧ V.cell? ⟨b, off + i * 4 + 2, none⟩ = some (.int .i64 (pw ys i)) ∧ V.cell? ⟨b, off + i * 4 + 3, none⟩ = some (.int .i64 (ph ys i)) by
    obtain ⟨v0, v1, v2, v3⟩ := wpA_at hok hi
    exact ⟨(hV.cells b _ hb).trans ((hc (i * 4) (by omega)).trans (by rw [v0])), (hV.cells b _ hb).trans ((hc (i * 4 + 1) (by omega)).trans (by rw [v1])), (hV.cells b _ hb).trans ((hc (i * 4 + 2) (by omega)).trans (by rw [v2])), (hV.cells b _ hb).trans ((hc (i * 4 + 3) (by omega)).trans (by rw [v3]))⟩))
  clear hc
  have BD := Lib.hid (fun i (hi : i < nq) => wrp_bd hok hi)
  have PB := Lib.hid (fun i (hi : i < nq) => pr_bd (wrOk_iff.1 hok).1 hi)
  have I9 := Lib.hid I1.out
  obtain ⟨b', off', rfl, hb', hc'⟩ := I9.out.at_ (by omega)
  have LC := Lib.hid (fun i (hi : i < nq) V (hV : New w4 V) => (show V.cell? ⟨b', off' + i * 2, none⟩ = some (.int .i64 (pw ys i)) ∧ V.cell? ⟨b', off' + i * 2 + 1, none⟩ = some (.int .i64 (ph ys i)) from ⟨(hV.cells b' _ hb').trans (hc' (i * 2) (by omega)), (hV.cells b' _ hb').trans (hc' (i * 2 + 1) (by omega))⟩))
  have AP := Lib.hid (fun t u (ht : t < nq) (hu : u < t) => wrp_apart hok ht hu)
  have NN := Lib.hid N4.out
  clear hok hc'
  go_wp2
  go_loopw [7] (fun i wr => ∃ j : Nat, j ≤ nq ∧ i = .int .i64 j ∧ Hid (New w4 wr)) (fun i _ => nq - (intOf i).toNat)
  case atStart => exact ⟨0, Nat.zero_le _, rfl, Lib.hid (New.refl _)⟩
  case round =>
    obtain ⟨wo, rfl⟩ : ∃ x, x = wr := ⟨wr, rfl⟩
    obtain ⟨j, hj, rfl, HW⟩ := hrel
    have j0 : (0 : Int) ≤ (j : Int) := by omega
    by_cases hlt : j < nq
    · have j1 : (j : Int) < (nq : Int) := by omega
      have AJ := Lib.hid (fun u hu => AP.out j u hlt hu)
      obtain ⟨⟨x0, x1⟩, y0_, y1_⟩ := BD.out j hlt
      obtain ⟨⟨p0, p1⟩, q0, q1⟩ := PB.out j hlt
      have HG := Lib.hid (GC.out j hlt)
      have HL := Lib.hid (LC.out j hlt)
      generalize xq ys nq wd gp j = X at *
      generalize yq ys nq wd gp j = Y at *
      generalize pw ys j = P at *
      generalize ph ys j = Q at *
      obtain ⟨g0, g1, g2, g3⟩ := HG.out wo HW.out
      obtain ⟨e0, e1⟩ := HL.out wo HW.out
      have pe : (P != P) = false := by simp
      have qe : (Q != Q) = false := by simp
      have dx : decide (X < 0) = false := decide_eq_false (by omega)
      have dy : decide (Y < 0) = false := decide_eq_false (by omega)
      have dj : decide ((nq : Int) ≤ (j : Int)) = false := decide_eq_false (by omega)
      have dj2 : decide (nq ≤ j) = false := decide_eq_false (by omega)
      have nj2 : ¬ (nq ≤ j) := by omega
      have TN : Hid (∀ t, t < j → t < nq ∧ (t : Int) < (nq : Int)) := Lib.hid (fun t h => ⟨by omega, by omega⟩)
      go_wp2
      go_quiet (fail)
      have NQ := Lib.hid (HW.out.drewN nq)
      generalize wo.drewN nq = W4 at NQ ⊢
      clear nq
      clear g0 g1 g2 g3 e0 e1
      go_wp2
      go_loopw [8] (fun i wr => ∃ t : Nat, t ≤ j ∧ i = .int .i64 t ∧ Hid (New w4 wr)) (fun i _ => j - (intOf i).toNat)
      case atStart => exact ⟨0, Nat.zero_le _, rfl, NQ⟩
      case round =>
        obtain ⟨W5, rfl⟩ : ∃ x, x = wr := ⟨wr, rfl⟩
        obtain ⟨t, ht, rfl, HV⟩ := hrel
        have t0 : (0 : Int) ≤ (t : Int) := by omega
        by_cases htl : t < j
        · have t1 : (t : Int) < (j : Int) := by omega
          obtain ⟨tn, t2⟩ := TN.out t htl
          have ap := AJ.out t htl
          obtain ⟨⟨x0', x1'⟩, y0', y1'⟩ := BD.out t tn
          obtain ⟨⟨p0', p1'⟩, q0', q1'⟩ := PB.out t tn
          have HT := Lib.hid (GC.out t tn)
          generalize xq ys nq wd gp t = X' at *
          generalize yq ys nq wd gp t = Y' at *
          generalize pw ys t = P' at *
          generalize ph ys t = Q' at *
          have hmf : mOk X Y P Q X' Y' P' Q' = false := by
            cases hm : mOk X Y P Q X' Y' P' Q'
            · rfl
            · obtain ⟨_, _, h1, h2⟩ := mOk_iff.1 hm
              unfold mW mn mx at h1 h2
              omega
          have MX : Hid (∀ V, Calls Try.prog 29 #[.agg #[.int .i64 X, .int .i64 Y, .int .i64 P, .int .i64 Q], .agg #[.int .i64 X', .int .i64 Y', .int .i64 P', .int .i64 Q']] V fun e V' => (∃ h0 h1 h2 h3 : Int, e = .returned (.tuple #[.agg #[.int .i64 h0, .int .i64 h1, .int .i64 h2, .int .i64 h3], .bool false])) ∧ New V V') := Lib.hid (fun V => by
            have h := MeetRects_any X Y P Q X' Y' P' Q' V
            rw [hmf] at h
            exact h.mono fun e V' ⟨he, hN⟩ => ⟨⟨_, _, _, _, he⟩, hN⟩)
          clear ap x0' x1' y0' y1' p0' p1' q0' q1'
          have KX := Lib.hid (fun V (hV : New W5 V) => (⟨(HG.out V (HV.out.trans hV)).1, (HG.out V (HV.out.trans hV)).2.1, (HG.out V (HV.out.trans hV)).2.2.1, (HG.out V (HV.out.trans hV)).2.2.2, HT.out V (HV.out.trans hV)⟩ : V.cell? ⟨b, off + j * 4, none⟩ = some (.int .i64 X) ∧ V.cell? ⟨b, off + j * 4 + 1, none⟩ = some (.int .i64 Y) ∧ V.cell? ⟨b, off + j * 4 + 2, none⟩ = some (.int .i64 P) ∧ V.cell? ⟨b, off + j * 4 + 3, none⟩ = some (.int .i64 Q) ∧ V.cell? ⟨b, off + t * 4, none⟩ = some (.int .i64 X') ∧ V.cell? ⟨b, off + t * 4 + 1, none⟩ = some (.int .i64 Y') ∧ V.cell? ⟨b, off + t * 4 + 2, none⟩ = some (.int .i64 P') ∧ V.cell? ⟨b, off + t * 4 + 3, none⟩ = some (.int .i64 Q')))
          have NC := Lib.hid (New.refl W5).drew
          have KK := KX.out _ NC.out
          have NZ := Lib.hid ((New.refl W5).alloc (.cells #[.int .i64 0, .int .i64 0, .int .i64 0, .int .i64 0] 44)).drew
          have KZ := KX.out _ NZ.out
          have RZ := Lib.hid ((Row.oneRect W5 0 0 0 0 44).new (New.refl _).drew)
          go_wp2
          go_region_held3 (fun w' => w'.cell? ⟨b, off + j * 4, none⟩ = some (.int .i64 X) ∧ w'.cell? ⟨b, off + j * 4 + 1, none⟩ = some (.int .i64 Y) ∧ w'.cell? ⟨b, off + j * 4 + 2, none⟩ = some (.int .i64 P) ∧ w'.cell? ⟨b, off + j * 4 + 3, none⟩ = some (.int .i64 Q) ∧ w'.cell? ⟨b, off + t * 4, none⟩ = some (.int .i64 X') ∧ w'.cell? ⟨b, off + t * 4 + 1, none⟩ = some (.int .i64 Y') ∧ w'.cell? ⟨b, off + t * 4 + 2, none⟩ = some (.int .i64 P') ∧ w'.cell? ⟨b, off + t * 4 + 3, none⟩ = some (.int .i64 Q'))
            (first | exact KK | exact KZ | assumption | exact KX.out _ (by (repeat (first | exact New.refl _ | assumption | refine New.alloc ?_ _ | refine New.drew ?_ | refine New.drewN ?_ _ | refine New.setCell ?_ (by first | omega | (simp; omega) | (simp; done)) _ | refine New.trans ?_ (by assumption)))))
            (first
              | (go_at_call 29; with_reducible refine (MX.out W5.drew).mono ?_; rintro e wk ⟨⟨h0, h1, h2, h3, rfl⟩, Nk⟩; (have KK := KX.out wk (NC.out.trans Nk)); (have NK := Lib.hid (NC.out.trans Nk)); clear Nk)
              | (go_at_call 29; with_reducible refine (MX.out (W5.alloc (.cells #[.int .i64 0, .int .i64 0, .int .i64 0, .int .i64 0] 44)).drew).mono ?_; rintro e wk ⟨⟨h0, h1, h2, h3, rfl⟩, Nk⟩; (have KK := KX.out wk (NZ.out.trans Nk)); (have NK := Lib.hid (NZ.out.trans Nk)); (have RK := Lib.hid (RZ.out.new Nk)); (have k0_ := RK.out.c 0 (by simp)); (have k1_ := RK.out.c 1 (by simp)); (have k2_ := RK.out.c 2 (by simp)); (have k3_ := RK.out.c 3 (by simp)); (have z0_ := RK.out.f 0 (by simp)); (have z1_ := RK.out.f 1 (by simp)); (have z2_ := RK.out.f 2 (by simp)); (have z3_ := RK.out.f 3 (by simp)); clear Nk))
          · have N7 := Lib.hid (show New W5 (wk.alloc (.cells #[.int .i64 h0, .int .i64 h1, .int .i64 h2, .int .i64 h3] 44)) from NK.out.alloc _)
            clear KK KZ
            generalize wk.alloc (.cells #[.int .i64 h0, .int .i64 h1, .int .i64 h2, .int .i64 h3] 44) = W7 at N7 ⊢
            go_wp2
            go_roundw
            case rel => exact ⟨t + 1, by omega, by go_num, Lib.hid (HV.out.trans N7.out)⟩
            case measure => simp [intOf]; omega
          · have N7 := Lib.hid (show New W5 ((((wk.setCell ⟨W5.heap.size, 0, none⟩ (.int .i64 h0)).setCell ⟨W5.heap.size, 1, none⟩ (.int .i64 h1)).setCell ⟨W5.heap.size, 2, none⟩ (.int .i64 h2)).setCell ⟨W5.heap.size, 3, none⟩ (.int .i64 h3)) from (((NK.out.setCell (Nat.le_refl _) _).setCell (Nat.le_refl _) _).setCell (Nat.le_refl _) _).setCell (Nat.le_refl _) _)
            clear KK KZ k0_ k1_ k2_ k3_ z0_ z1_ z2_ z3_ RK
            generalize ((((wk.setCell ⟨W5.heap.size, 0, none⟩ (.int .i64 h0)).setCell ⟨W5.heap.size, 1, none⟩ (.int .i64 h1)).setCell ⟨W5.heap.size, 2, none⟩ (.int .i64 h2)).setCell ⟨W5.heap.size, 3, none⟩ (.int .i64 h3)) = W7 at N7 ⊢
            go_wp2
            go_roundw
            case rel => exact ⟨t + 1, by omega, by go_num, Lib.hid (HV.out.trans N7.out)⟩
            case measure => simp [intOf]; omega
        · obtain rfl : t = j := by omega
          go_wp2
          go_roundw
          case rel => exact ⟨t + 1, hlt, by go_num, HV⟩
          case measure => simp [intOf]; omega
    · obtain rfl : nq = j := by omega
      have ne : ((nq : Int) == (nq : Int)) = true := by simp
      go_wp2
      go_ret
      exact ⟨ret_bool (by simp), NN.out.trans HW.out⟩
end Go.Proofs.Ytpkajdnndognnaa
