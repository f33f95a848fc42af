/- The law FnWrapHeight, walked: the height is where the lowest rectangle ends. Condition: the code can be read. -/
import Derived.Test.YtpkajdnndognnaaDrawPl
import Derived.Test.YtpkajdnndognnaaPrtP
import Derived.Test.YtpkajdnndognnaaPrtR
import Derived.Test.YtpkajdnndognnaaPrtQ
import Derived.Test.YtpkajdnndognnaaRectQ
import Derived.Deep.QuietTactic
import Derived.BigQuiet
import Derived.Test.YtpkajdnndognnaaPrtX
import Derived.Test.YtpkajdnndognnaaRFun
namespace Go.Proofs.Ytpkajdnndognnaa
open Go.RowKit

set_option maxRecDepth 100000 in
set_option maxHeartbeats 4000000 in
theorem lawWrapHeight (A : Option Addr) (n c : Nat) (hn : n ≤ maxLen) (hnc : n ≤ c) (w : World) (hb : Bytes w A n) :
    Calls Try.prog 7 #[.slice A n c] w fun e w' => e = .returned (.bool true) ∧ New w w' := by
  have HB := Lib.hid hb; have HM := Lib.hid hn
  clear hb
  unfold maxLen at hn
  by_cases hbig : 1048576 < n
  · go_enter Try.func7, Try.ntmps7
    go_wp2
    go_ret
    exact ⟨rfl, by (repeat (first | exact New.refl _ | assumption | refine New.alloc ?_ _ | refine New.drew ?_ | refine New.drewN ?_ _ | refine New.setCell ?_ (by first | omega | (simp; omega) | (simp; done)) _ | refine New.trans ?_ (by assumption)))⟩
  have hm : (n : Int) ≤ 1048576 := by omega
  have hm0 : (0 : Int) ≤ (n : Int) := by omega
  go_enter Try.func7, Try.ntmps7
  go_wp2_with fail
  refine (DrawWrapHeight_any A n c HM.out hnc _ HB.out).mono ?_
  rintro e w1 ⟨B1, m1, d1, ys, wd, gp, rfl, I1, dc, l1, T1, wb, gb, N1a⟩
  have s1 := N1a.le
  have N1 := Lib.hid ((New.refl w).trans N1a); clear N1a
  replace I1 := Lib.hid I1; clear T1
  have y0 : (0 : Int) ≤ (m1 : Int) := by omega
  have y1 : (m1 : Int) ≤ 13 := by omega
  obtain ⟨z, HZ⟩ : ∃ z, Hid (whA ys m1 wd gp = z) := ⟨_, Lib.hid rfl⟩
  go_wp2_with fail
  refine (WrapHeight_any B1 m1 d1 ys wd gp (by omega) dc _ I1.out).mono ?_
  rw [HZ.out]
  rintro e w2 ⟨rfl, N2a⟩
  have s2 := N2a.le
  have I1 := Lib.hid (I1.out.new N2a)
  have N2 := Lib.hid (N1.out.trans N2a); clear N2a
  go_wp2_with fail
  refine (SWrapHeight_any B1 m1 d1 ys wd gp (by omega) _ I1.out).mono ?_
  rw [HZ.out]
  rintro e w3 ⟨rfl, N3a⟩
  have s3 := N3a.le
  have I1 := Lib.hid (I1.out.new N3a)
  have N3 := Lib.hid (N2.out.trans N3a); clear N3a
  by_cases hb : z < 0
  · skip
    go_wp2_with fail
    refine (SWrapHeight_any B1 m1 d1 ys wd gp (by omega) _ I1.out).mono ?_
    rw [HZ.out]
    rintro e w4 ⟨rfl, N4a⟩
    have s4 := N4a.le
    have I1 := Lib.hid (I1.out.new N4a)
    have N4 := Lib.hid (N3.out.trans N4a); clear N4a
    go_wp2
    go_ret
    exact ⟨rfl, N4.out⟩
  rcases Nat.eq_zero_or_pos m1 with rfl | mp
  · have hz0 : z = 0 := by
      rw [← HZ.out, whA]
      split
      · exact gapSum_nil gp
      · next h => rw [← HZ.out, whA, if_neg h] at hb; exact absurd (by decide) hb
    subst hz0
    go_wp2_with fail
    refine (SWrapHeight_any B1 0 d1 ys wd gp (by omega) _ I1.out).mono ?_
    rw [HZ.out]
    rintro e w4 ⟨rfl, N4a⟩
    have s4 := N4a.le
    have I1 := Lib.hid (I1.out.new N4a)
    have N4 := Lib.hid (N3.out.trans N4a); clear N4a
    go_wp2
    go_ret
    exact ⟨rfl, N4.out⟩
  have mb : ((m1 : Int) == 0) = false := by rw [beq_eq_false_iff_ne]; omega
  have hok : wrOk ys m1 wd gp = true := by
    cases h : wrOk ys m1 wd gp
    · have h2 := HZ.out
      rw [whA, h] at h2
      exact absurd (show z < 0 by rw [← h2]; simp) hb
    · rfl
  obtain ⟨nq, LQ, hnq⟩ : ∃ nq, Hid ((wpA ys m1 wd gp).length = nq * 4) ∧ nq = m1 := ⟨m1, Lib.hid (wpA_yes hok), rfl⟩
  subst hnq
  have h0 : 0 < nq := mp
  have nq12 := n_le (wrOk_iff.1 hok).1
  have nqi : (nq : Int) ≤ 12 := by omega
  have nqj : (0 : Int) ≤ (nq : Int) := by omega
  go_wp2_with fail
  refine (WrapParts_any B1 nq d1 ys wd gp (by omega) dc _ I1.out).mono ?_
  rintro e w4 ⟨A4, n4, c4, rfl, l4, q4, r4, N4a⟩
  have s4 := N4a.le
  have I1 := Lib.hid (I1.out.new N4a)
  have N4 := Lib.hid (N3.out.trans N4a); clear N4a
  obtain rfl : nq = n4 := by have := LQ.out; omega
  have R4 := Lib.hid r4; clear l4 r4
  obtain ⟨b, off, rfl, hb, hc⟩ := (Sts.of_res (m := 3) R4.out LQ.out).at_ (by omega)
  have GC := Lib.hid (fun i (hi : i < nq) V (hV : New w4 V) => (show V.cell? ⟨b, off + i * 4, none⟩ = some (.int .i64 (xq ys nq wd gp i)) ∧ V.cell? ⟨b, off + i * 4 + 1, none⟩ = some (.int .i64 (yq ys nq wd gp i)) ∧ V.cell? ⟨b, off + i * 4 + 2, none⟩ = some (.int .i64 (pw ys i)) ∧ V.cell? ⟨b, off + i * 4 + 3, none⟩ = some (.int .i64 (ph ys i)) by
    obtain ⟨v0, v1, v2, v3⟩ := wpA_at hok hi
    exact ⟨(hV.cells b _ hb).trans ((hc (i * 4) (by omega)).trans (by rw [v0])), (hV.cells b _ hb).trans ((hc (i * 4 + 1) (by omega)).trans (by rw [v1])), (hV.cells b _ hb).trans ((hc (i * 4 + 2) (by omega)).trans (by rw [v2])), (hV.cells b _ hb).trans ((hc (i * 4 + 3) (by omega)).trans (by rw [v3]))⟩))
  clear hc
  have BD := Lib.hid (fun i (hi : i < nq) => wrp_bd hok hi)
  have PB := Lib.hid (fun i (hi : i < nq) => pr_bd (wrOk_iff.1 hok).1 hi)
  have LE := Lib.hid (fun i (hi : i < nq) => (show yq ys nq wd gp i + ph ys i ≤ z by rw [← HZ.out]; exact wrp_le hok hi))
  have AT : Hid (anyTo nq (fun t => yq ys nq wd gp t + ph ys t == z) = true) := Lib.hid (by
    obtain ⟨t, ht, h⟩ := wrp_at hok h0
    exact anyTo_iff.2 ⟨t, ht, by rw [HZ.out] at h; simpa using h⟩)
  have NN := Lib.hid N4.out
  clear hok
  go_wp2
  go_loopw [8, 9] (fun sv i wr => ∃ j : Nat, j ≤ nq ∧ i = .int .i64 j ∧ sv = .bool (anyTo j (fun t => yq ys nq wd gp t + ph ys t == z)) ∧ Hid (New w4 wr)) (fun _ i _ => nq - (intOf i).toNat)
  case atStart => exact ⟨0, Nat.zero_le _, rfl, by rw [anyTo_no (fun i h => absurd h (by omega))], Lib.hid (New.refl _)⟩
  case round =>
    obtain ⟨j, hj, rfl, rfl, HW⟩ := hrel
    have j0 : (0 : Int) ≤ (j : Int) := by omega
    by_cases hlt : j < nq
    · have j1 : (j : Int) < (nq : Int) := by omega
      have AS := Lib.hid (anyTo_step (n := j) (fun t => yq ys nq wd gp t + ph ys t == z))
      have le := LE.out j hlt
      obtain ⟨xb, y0_, y1_⟩ := BD.out j hlt
      obtain ⟨_, q0, q1⟩ := PB.out j hlt
      have HG := Lib.hid (GC.out j hlt)
      generalize hA : anyTo j (fun t => yq ys nq wd gp t + ph ys t == z) = sa at *
      clear hA
      replace AS := Lib.hid (AS.out.trans (show _ = (sa || (yq ys nq wd gp j + ph ys j == z)) from rfl))
      generalize yq ys nq wd gp j = Y at *
      generalize ph ys j = Q at *
      have s1 : IntKind.i64.wrap (Y + Q) = Y + Q := IntWalk.i64_in _ (by omega)
      have nle : ¬ (z < Y + Q) := by omega
      have dl : decide (z < Y + Q) = false := decide_eq_false nle
      obtain ⟨g0, g1, g2, g3⟩ := HG.out wr HW.out
      clear g0 g2
      obtain ⟨E, hE⟩ : ∃ E, (Y + Q == z) = E := ⟨_, rfl⟩
      rw [hE] at AS
      cases sa
      · cases E
        all_goals
          go_wp2
          go_quiet (fail)
          have NQ := Lib.hid (HW.out.drewN nq)
          generalize wr.drewN nq = W5 at NQ ⊢
          obtain ⟨g0, g1, g2, g3⟩ := HG.out W5 NQ.out
          clear g0 g2
          go_wp2
          go_quiet (fail)
          have NR := Lib.hid (NQ.out.drewN nq)
          generalize W5.drewN nq = W6 at NR ⊢
          go_wp2
          go_roundw
          case rel => exact ⟨j + 1, by omega, by go_num, by rw [AS.out]; rfl, NR⟩
          case measure => simp [intOf]; omega
      · go_wp2
        go_quiet (fail)
        have NQ := Lib.hid (HW.out.drewN nq)
        generalize wr.drewN nq = W5 at NQ ⊢
        obtain ⟨g0, g1, g2, g3⟩ := HG.out W5 NQ.out
        clear g0 g2
        go_wp2
        go_quiet (fail)
        have NR := Lib.hid (NQ.out.drewN nq)
        generalize W5.drewN nq = W6 at NR ⊢
        go_wp2
        go_roundw
        case rel => exact ⟨j + 1, by omega, by go_num, by rw [AS.out]; rfl, NR⟩
        case measure => simp [intOf]; omega
    · obtain rfl : nq = j := by omega
      rw [AT.out]
      go_wp2
      go_ret
      exact ⟨rfl, NN.out.trans HW.out⟩
end Go.Proofs.Ytpkajdnndognnaa
