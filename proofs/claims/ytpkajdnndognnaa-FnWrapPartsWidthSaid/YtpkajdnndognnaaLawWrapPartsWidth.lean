/- The law FnWrapPartsWidth, walked: rectangles that are not the first ones of their lines end in the width. Condition: the code can be read. -/
import Derived.Test.YtpkajdnndognnaaDrawPl
import Derived.Test.YtpkajdnndognnaaPrtP
import Derived.Test.YtpkajdnndognnaaPrtR
import Derived.Test.YtpkajdnndognnaaPrtQ
import Derived.Test.YtpkajdnndognnaaRectQ
import Derived.Deep.QuietTactic
import Derived.BigQuiet
namespace Go.Proofs.Ytpkajdnndognnaa
open Go.RowKit

set_option maxRecDepth 100000 in
set_option maxHeartbeats 4000000 in
theorem lawWrapPartsWidth (A : Option Addr) (n c : Nat) (hn : n ≤ maxLen) (hnc : n ≤ c) (w : World) (hb : Bytes w A n) :
    Calls Try.prog 6 #[.slice A n c] w fun e w' => e = .returned (.bool true) ∧ New w w' := by
  have HB := Lib.hid hb; have HM := Lib.hid hn
  clear hb
  unfold maxLen at hn
  by_cases hbig : 1048576 < n
  · go_enter Try.func6, Try.ntmps6
    go_wp2
    go_ret
    exact ⟨rfl, by (repeat (first | exact New.refl _ | assumption | refine New.alloc ?_ _ | refine New.drew ?_ | refine New.drewN ?_ _ | refine New.setCell ?_ (by first | omega | (simp; omega) | (simp; done)) _ | refine New.trans ?_ (by assumption)))⟩
  have hm : (n : Int) ≤ 1048576 := by omega
  have hm0 : (0 : Int) ≤ (n : Int) := by omega
  go_enter Try.func6, Try.ntmps6
  go_wp2_with fail
  refine (DrawWrapParts_any A n c HM.out hnc _ HB.out).mono ?_
  rintro e w1 ⟨B1, m1, d1, ys, wd, gp, rfl, I1, dc, l1, T1, wb, gb, N1a⟩
  have s1 := N1a.le
  have N1 := Lib.hid ((New.refl w).trans N1a); clear N1a
  replace I1 := Lib.hid I1; clear T1
  have y0 : (0 : Int) ≤ (m1 : Int) := by omega
  have y1 : (m1 : Int) ≤ 13 := by omega
  obtain ⟨nq, LQ, nq12⟩ : ∃ nq, Hid ((wpA ys m1 wd gp).length = nq * 4) ∧ nq ≤ 12 := by
    obtain ⟨m, h1, h2⟩ := wpA_len (zs := ys) (n := m1) (wd := wd) (gap := gp)
    exact ⟨m, Lib.hid h1, h2⟩
  have nqi : (nq : Int) ≤ 12 := by omega
  have nqj : (0 : Int) ≤ (nq : Int) := by omega
  rcases Nat.eq_zero_or_pos nq with h0 | h0
  · subst h0
    go_wp2_with fail
    refine (WrapParts_any B1 m1 d1 ys wd gp (by omega) dc _ I1.out).mono ?_
    rintro e w2 ⟨A2, n2, c2, rfl, l2, q2, r2, N2a⟩
    have s2 := N2a.le
    have I1 := Lib.hid (I1.out.new N2a)
    have N2 := Lib.hid (N1.out.trans N2a); clear N2a
    obtain rfl : 0 = n2 := by have := LQ.out; omega
    have R2 := Lib.hid r2; clear l2 r2
    go_wp2_with fail
    refine (SWrapParts_ans B1 m1 d1 ys wd gp (by omega) _ I1.out).mono ?_
    rintro e w3 ⟨A3, n3, c3, rfl, l3, q3, r3, N3a⟩
    have s3 := N3a.le
    have I1 := Lib.hid (I1.out.new N3a)
    have R2 := Lib.hid (R2.out.new N3a)
    have N3 := Lib.hid (N2.out.trans N3a); clear N3a
    obtain rfl : 0 = n3 := by have := LQ.out; omega
    have R3 := Lib.hid r3; clear l3 r3
    go_wp2_with fail
    refine (equalRects_same _ _ 0 _ _ _ (by omega) _ (Sts.of_res (m := 3) R2.out LQ.out) (Sts.of_res (m := 3) R3.out LQ.out)).mono ?_
    rintro e w4 ⟨rfl, N4a⟩
    have s4 := N4a.le
    have I1 := Lib.hid (I1.out.new N4a)
    have R2 := Lib.hid (R2.out.new N4a)
    have R3 := Lib.hid (R3.out.new N4a)
    have N4 := Lib.hid (N3.out.trans N4a); clear N4a
    go_wp2_with fail
    refine (SWrapParts_ans B1 m1 d1 ys wd gp (by omega) _ I1.out).mono ?_
    rintro e w5 ⟨A5, n5, c5, rfl, l5, q5, r5, N5a⟩
    have s5 := N5a.le
    have I1 := Lib.hid (I1.out.new N5a)
    have R2 := Lib.hid (R2.out.new N5a)
    have R3 := Lib.hid (R3.out.new N5a)
    have N5 := Lib.hid (N4.out.trans N5a); clear N5a
    obtain rfl : 0 = n5 := by have := LQ.out; omega
    have R5 := Lib.hid r5; clear l5 r5
    go_wp2_with fail
    refine (equalRects_same _ _ 0 _ _ _ (by omega) _ (Sts.of_res (m := 3) R2.out LQ.out) (Sts.of_res (m := 3) R5.out LQ.out)).mono ?_
    rintro e w6 ⟨rfl, N6a⟩
    have s6 := N6a.le
    have I1 := Lib.hid (I1.out.new N6a)
    have R2 := Lib.hid (R2.out.new N6a)
    have R3 := Lib.hid (R3.out.new N6a)
    have R5 := Lib.hid (R5.out.new N6a)
    have N6 := Lib.hid (N5.out.trans N6a); clear N6a
    go_wp2
    go_ret
    exact ⟨rfl, N6.out⟩
  have hok : wrOk ys m1 wd gp = true := by
    cases h : wrOk ys m1 wd gp
    · have := LQ.out; rw [wpA_no h] at this; simp at this; omega
    · rfl
  obtain rfl : nq = m1 := by have := LQ.out; rw [wpA_yes hok] at this; omega
  have nz0 : ((nq : Int) == 0) = false := by simp; omega
  go_wp2_with fail
  refine (WrapParts_any B1 nq d1 ys wd gp (by omega) dc _ I1.out).mono ?_
  rintro e w2 ⟨A2, n2, c2, rfl, l2, q2, r2, N2a⟩
  have s2 := N2a.le
  have I1 := Lib.hid (I1.out.new N2a)
  have N2 := Lib.hid (N1.out.trans N2a); clear N2a
  obtain rfl : nq = n2 := by have := LQ.out; omega
  have R2 := Lib.hid r2; clear l2 r2
  go_wp2_with fail
  refine (SWrapParts_ans B1 nq d1 ys wd gp (by omega) _ I1.out).mono ?_
  rintro e w3 ⟨A3, n3, c3, rfl, l3, q3, r3, N3a⟩
  have s3 := N3a.le
  have I1 := Lib.hid (I1.out.new N3a)
  have R2 := Lib.hid (R2.out.new N3a)
  have N3 := Lib.hid (N2.out.trans N3a); clear N3a
  obtain rfl : nq = n3 := by have := LQ.out; omega
  have R3 := Lib.hid r3; clear l3 r3
  go_wp2_with fail
  refine (equalRects_same _ _ nq _ _ _ (by omega) _ (Sts.of_res (m := 3) R2.out LQ.out) (Sts.of_res (m := 3) R3.out LQ.out)).mono ?_
  rintro e w4 ⟨rfl, N4a⟩
  have s4 := N4a.le
  have I1 := Lib.hid (I1.out.new N4a)
  have R2 := Lib.hid (R2.out.new N4a)
  have R3 := Lib.hid (R3.out.new N4a)
  have N4 := Lib.hid (N3.out.trans N4a); clear N4a
  obtain ⟨b, off, rfl, hb, hc⟩ := (Sts.of_res (m := 3) R2.out LQ.out).at_ (by omega)
  have GC := Lib.hid (fun i (hi : i < nq) V (hV : New w4 V) => (show V.cell? ⟨b, off + i * 4, none⟩ = some (.int .i64 (xq ys nq wd gp i)) ∧ V.cell? ⟨b, off + i * 4 + 1, none⟩ = some (.int .i64 (yq ys nq wd gp i)) ∧ V.cell? ⟨b, off + i * 4 + 2, none⟩ = some (.int .i64 (pw ys i)) ∧ V.cell? ⟨b, off + i * 4 + 3, none⟩ = some (.int .i64 (ph ys i)) by
    obtain ⟨v0, v1, v2, v3⟩ := wpA_at hok hi
    exact ⟨(hV.cells b _ hb).trans ((hc (i * 4) (by omega)).trans (by rw [v0])), (hV.cells b _ hb).trans ((hc (i * 4 + 1) (by omega)).trans (by rw [v1])), (hV.cells b _ hb).trans ((hc (i * 4 + 2) (by omega)).trans (by rw [v2])), (hV.cells b _ hb).trans ((hc (i * 4 + 3) (by omega)).trans (by rw [v3]))⟩))
  clear hc
  have BD := Lib.hid (fun i (hi : i < nq) => wrp_bd hok hi)
  have PB := Lib.hid (fun i (hi : i < nq) => pr_bd (wrOk_iff.1 hok).1 hi)
  have WI := Lib.hid (fun i (hi : i < nq) => wrp_width (zs := ys) (wd := wd) (gap := gp) hi)
  have FI := Lib.hid (wrp_first (zs := ys) (wd := wd) (gap := gp) h0)
  have NN := Lib.hid N4.out
  clear hok
  go_wp2
  go_loopw [7] (fun i wr => ∃ j : Nat, j ≤ nq ∧ i = .int .i64 j ∧ Hid (New w4 wr)) (fun i _ => nq - (intOf i).toNat)
  case atStart => exact ⟨0, Nat.zero_le _, rfl, Lib.hid (New.refl _)⟩
  case round =>
    obtain ⟨j, hj, rfl, HW⟩ := hrel
    have j0 : (0 : Int) ≤ (j : Int) := by omega
    by_cases hlt : j < nq
    · have j1 : (j : Int) < (nq : Int) := by omega
      have wi := WI.out j hlt
      obtain ⟨xb, yb⟩ := BD.out j hlt
      have pb := (PB.out j hlt).1
      have HG := Lib.hid (GC.out j hlt)
      generalize xq ys nq wd gp j = X at *
      generalize yq ys nq wd gp j = Y at *
      generalize pw ys j = P at *
      generalize ph ys j = Q at *
      obtain ⟨g0, g1, g2, g3⟩ := HG.out wr HW.out
      by_cases hx : 0 < X
      · have le := wi hx
        have s1 : IntKind.i64.wrap (X + P) = X + P := IntWalk.i64_in _ (by omega)
        have nle : ¬ (wd < X + P) := by omega
        have dx : decide (0 < X) = true := decide_eq_true hx
        have dl : decide (wd < X + P) = false := decide_eq_false nle
        go_wp2
        go_quiet (fail)
        have NQ := Lib.hid (HW.out.drewN nq)
        generalize wr.drewN nq = W5 at NQ ⊢
        go_wp2
        go_roundw
        case rel => exact ⟨j + 1, by omega, by go_num, NQ⟩
        case measure => simp [intOf]; omega
      · have dx : decide (0 < X) = false := decide_eq_false hx
        clear wi
        go_wp2
        go_quiet (fail)
        have NQ := Lib.hid (HW.out.drewN nq)
        generalize wr.drewN nq = W5 at NQ ⊢
        go_wp2
        go_roundw
        case rel => exact ⟨j + 1, by omega, by go_num, NQ⟩
        case measure => simp [intOf]; omega
    · obtain rfl : nq = j := by omega
      obtain ⟨g0, g1, g2, g3⟩ := GC.out 0 h0 wr HW.out
      rw [FI.out.1] at g0
      rw [FI.out.2] at g1
      rw [Nat.zero_mul, Nat.add_zero] at g0 g1
      have zp : (0 : Int) < (nq : Int) := by omega
      clear g2 g3
      go_wp2
      go_ret
      exact ⟨rfl, NN.out.trans HW.out⟩
end Go.Proofs.Ytpkajdnndognnaa
