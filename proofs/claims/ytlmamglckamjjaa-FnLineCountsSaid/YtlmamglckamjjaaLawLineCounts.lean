/- The law FnLineCounts, walked: for every code. Condition: the code can be read. -/
import Derived.Test.YtlmamglckamjjaaDrawPl
import Derived.Test.YtlmamglckamjjaaPrtC
import Derived.Test.YtlmamglckamjjaaPrtK
import Derived.Test.YtlmamglckamjjaaPrtZ
namespace Go.Proofs.Ytlmamglckamjjaa
open Go.RowKit

set_option maxHeartbeats 4000000 in
theorem lawLineCounts (A : Option Addr) (n c : Nat) (hn : n ≤ maxLen) (hnc : n ≤ c) (w : World) (hb : Bytes w A n) :
    Calls Try.prog 6 #[.slice A n c] w fun e w' => e = .returned (.bool true) ∧ New w w' := by
  have HB := Lib.hid hb; have HM := Lib.hid hn
  clear hb
  unfold maxLen at hn
  by_cases hbig : 1048576 < n
  · go_enter Try.func6, Try.ntmps6
    go_wp2
    go_ret
    exact ⟨rfl, by (repeat (first | exact New.refl _ | assumption | refine New.alloc ?_ _ | refine New.drew ?_ | refine New.drewN ?_ _ | refine New.setCell ?_ (by first | omega | (simp; omega) | (simp; done)) _ | refine New.trans ?_ (by assumption)))⟩
  have hm : (n : Int) ≤ 1048576 := by omega
  have hm0 : (0 : Int) ≤ (n : Int) := by omega
  go_enter Try.func6, Try.ntmps6
  go_wp2_with fail
  refine (DrawLineCounts_any A n c HM.out hnc _ HB.out).mono ?_
  rintro e w1 ⟨B1, m1, d1, ys, wd, gp, rfl, I1, dc, l1, T1, wb, gb, N1a⟩
  have s1 := N1a.le
  have N1 := Lib.hid ((New.refl w).trans N1a); clear N1a
  replace I1 := Lib.hid I1
  have y0 : (0 : Int) ≤ (m1 : Int) := by omega
  have y1 : (m1 : Int) ≤ 13 := by omega
  clear T1
  by_cases hz : lcA ys m1 wd gp = []
  · have HZ := Lib.hid hz
    clear hz
    go_wp2_with fail
    refine (LineCounts_any B1 m1 d1 ys wd gp (by omega) dc _ I1.out).mono ?_
    rintro e w2 ⟨A2, n2, c2, rfl, l2, r2, N2a⟩
    have s2 := N2a.le
    have I1 := Lib.hid (I1.out.new N2a)
    have N2 := Lib.hid (N1.out.trans N2a); clear N2a
    rw [HZ.out] at l2 r2
    obtain rfl : 0 = n2 := by simpa using l2
    have R2 := Lib.hid r2; clear l2 r2
    go_wp2_with fail
    refine (SLineCounts_ans B1 m1 d1 ys wd gp (by omega) _ I1.out).mono ?_
    rintro e w3 ⟨A3, n3, c3, rfl, l3, r3, N3a⟩
    have s3 := N3a.le
    have I1 := Lib.hid (I1.out.new N3a)
    have R2 := Lib.hid (R2.out.new N3a)
    have N3 := Lib.hid (N2.out.trans N3a); clear N3a
    rw [HZ.out] at l3 r3
    obtain rfl : 0 = n3 := by simpa using l3
    have R3 := Lib.hid r3; clear l3 r3
    go_wp2_with fail
    refine (equalInts_any _ _ 0 0 _ _ [] [] (by omega) (by omega) _ (R2.out.ints rfl) (R3.out.ints rfl)).mono ?_
    (rw [decide_eq_true rfl]; rintro e w4 ⟨rfl, N4a⟩)
    have s4 := N4a.le
    have I1 := Lib.hid (I1.out.new N4a)
    have R2 := Lib.hid (R2.out.new N4a)
    have R3 := Lib.hid (R3.out.new N4a)
    have N4 := Lib.hid (N3.out.trans N4a); clear N4a
    go_wp2_with fail
    refine (SLineCounts_ans B1 m1 d1 ys wd gp (by omega) _ I1.out).mono ?_
    rintro e w5 ⟨A5, n5, c5, rfl, l5, r5, N5a⟩
    have s5 := N5a.le
    have I1 := Lib.hid (I1.out.new N5a)
    have R2 := Lib.hid (R2.out.new N5a)
    have R3 := Lib.hid (R3.out.new N5a)
    have N5 := Lib.hid (N4.out.trans N5a); clear N5a
    rw [HZ.out] at l5 r5
    obtain rfl : 0 = n5 := by simpa using l5
    have R5 := Lib.hid r5; clear l5 r5
    go_wp2_with fail
    refine (equalInts_any _ _ 0 0 _ _ [] [] (by omega) (by omega) _ (R2.out.ints rfl) (R5.out.ints rfl)).mono ?_
    (rw [decide_eq_true rfl]; rintro e w6 ⟨rfl, N6a⟩)
    have s6 := N6a.le
    have I1 := Lib.hid (I1.out.new N6a)
    have R2 := Lib.hid (R2.out.new N6a)
    have R3 := Lib.hid (R3.out.new N6a)
    have R5 := Lib.hid (R5.out.new N6a)
    have N6 := Lib.hid (N5.out.trans N6a); clear N6a
    go_wp2
    go_ret
    exact ⟨rfl, N6.out⟩
  · have zp : 0 < (lcA ys m1 wd gp).length := List.length_pos_iff.2 hz
    have zc := lcA_len (zs := ys) (n := m1) (wd := wd) (gap := gp)
    obtain ⟨nz, LZ⟩ : ∃ nz, Hid ((lcA ys m1 wd gp).length = nz) := ⟨_, Lib.hid rfl⟩
    have z1 : 1 ≤ nz := by have := LZ.out; omega
    have z8 : nz ≤ 1048576 := by have := LZ.out; omega
    have zi : (1 : Int) ≤ (nz : Int) := by omega
    have zj : (nz : Int) ≤ 1048576 := by omega
    have zb : ((nz : Int) == 0) = false := by simp; omega
    have NE := Lib.hid hz
    clear hz zp zc
    go_wp2_with fail
    refine (LineCounts_any B1 m1 d1 ys wd gp (by omega) dc _ I1.out).mono ?_
    rintro e w2 ⟨A2, n2, c2, rfl, l2, r2, N2a⟩
    have s2 := N2a.le
    have I1 := Lib.hid (I1.out.new N2a)
    have N2 := Lib.hid (N1.out.trans N2a); clear N2a
    obtain rfl : nz = n2 := by have := LZ.out; omega
    have R2 := Lib.hid r2; clear l2 r2
    go_wp2_with fail
    refine (SLineCounts_ans B1 m1 d1 ys wd gp (by omega) _ I1.out).mono ?_
    rintro e w3 ⟨A3, n3, c3, rfl, l3, r3, N3a⟩
    have s3 := N3a.le
    have I1 := Lib.hid (I1.out.new N3a)
    have R2 := Lib.hid (R2.out.new N3a)
    have N3 := Lib.hid (N2.out.trans N3a); clear N3a
    obtain rfl : nz = n3 := by have := LZ.out; omega
    have R3 := Lib.hid r3; clear l3 r3
    go_wp2_with fail
    refine (equalInts_any _ _ nz nz _ _ _ _ (by omega) (by omega) _ (R2.out.ints LZ.out) (R3.out.ints LZ.out)).mono ?_
    (rw [decide_eq_true rfl]; rintro e w4 ⟨rfl, N4a⟩)
    have s4 := N4a.le
    have I1 := Lib.hid (I1.out.new N4a)
    have R2 := Lib.hid (R2.out.new N4a)
    have R3 := Lib.hid (R3.out.new N4a)
    have N4 := Lib.hid (N3.out.trans N4a); clear N4a
    have hok : wrOk ys m1 wd gp = true := by
      have h := NE.out
      cases hk : wrOk ys m1 wd gp
      · rw [lcA, hk] at h; exact absurd rfl h
      · rfl
    have mp : 0 < m1 := by
      rcases Nat.eq_zero_or_pos m1 with rfl | h
      · exact absurd (by rw [lcA, if_pos hok]; rfl) NE.out
      · exact h
    obtain ⟨hv1, hw, hg⟩ := wrOk_iff.1 hok
    have el : lcA ys m1 wd gp = cnL ys m1 wd gp (nl ys m1 wd gp) := by rw [lcA, if_pos hok]
    have en : nl ys m1 wd gp = nz := by have h := LZ.out; rw [el, cnL_len] at h; exact h
    rw [en] at el
    have n12 := n_le hv1
    have nzm : nz ≤ m1 := by rw [← en]; exact nl_le
    obtain ⟨b, off, rfl, hb, hc⟩ := I1.out.at_ mp
    obtain ⟨b', off', e', hb', hc'⟩ := (R2.out.ints LZ.out).at_ (by omega)
    subst e'
    have HC := Lib.hid hc
    have HC' : Hid (∀ k, k < nz → w4.cell? ⟨b', off' + k, none⟩ = some (.int .i64 (ln ys m1 wd gp (st ys m1 wd gp k) : Nat))) := Lib.hid (fun k hk => by
      have h := hc' k hk
      rw [el, cnL_at hk] at h
      exact h)
    have SE : Hid ((lcA ys m1 wd gp).sum = (m1 : Int)) := Lib.hid (by rw [el, cnL_sum, ← en, st_nl])
    have SM : Hid (Sml (lcA ys m1 wd gp)) := Lib.hid (fun z hz => by
      rw [el] at hz
      obtain ⟨i, hi, rfl⟩ := List.mem_map.1 hz
      have := line_in (zs := ys) (n := m1) (wd := wd) (gap := gp) (k := i) (by rw [en]; exact List.mem_range.1 hi)
      omega)
    have OV := Lib.hid (fun k (h : 1 < ln ys m1 wd gp (st ys m1 wd gp k)) => (show gp * (((ln ys m1 wd gp (st ys m1 wd gp k) : Nat) : Int) - 1) + pws ys (st ys m1 wd gp k) (ln ys m1 wd gp (st ys m1 wd gp k)) ≤ wd by have h1 := ln_in (zs := ys) (n := m1) (wd := wd) (gap := gp) (a := st ys m1 wd gp k) (j := ln ys m1 wd gp (st ys m1 wd gp k) - 1) (by omega) (by omega); rw [usd_pws, show ln ys m1 wd gp (st ys m1 wd gp k) - 1 + 1 = ln ys m1 wd gp (st ys m1 wd gp k) by omega, show ((ln ys m1 wd gp (st ys m1 wd gp k) - 1 : Nat) : Int) = ((ln ys m1 wd gp (st ys m1 wd gp k) : Nat) : Int) - 1 by omega] at h1; omega))
    have LI := Lib.hid (fun k (hk : k < nz) => line_in (zs := ys) (n := m1) (wd := wd) (gap := gp) (k := k) (by rw [en]; exact hk))
    have SN : Hid (st ys m1 wd gp nz = m1) := Lib.hid (by rw [← en]; exact st_nl)
    have LG := Lib.hid (fun k => ln_ge (zs := ys) (n := m1) (wd := wd) (gap := gp) (st ys m1 wd gp k))
    have SS := Lib.hid (fun k => st_succ (zs := ys) (n := m1) (wd := wd) (gap := gp) k)
    have PB := Lib.hid (fun a j (h : a + j ≤ m1) => pws_bd hv1 (a := a) j h)
    have P1 := Lib.hid (fun t (ht : t < m1) => (pr_bd hv1 ht).1)
    have IR := Lib.hid (R2.out.ints LZ.out)
    have NN := Lib.hid N4.out
    obtain ⟨hg0, hg1⟩ := hg
    clear hc hc' hok hv1 hw el en
    go_wp2_with (go_at_call 23; refine (lsum_any _ nz c2 _ (by omega) _ IR.out SM.out).mono ?_; rw [SE.out]; rintro e w' ⟨rfl, rfl⟩)
    go_loopw [7, 8] (fun a i wr => ∃ j : Nat, j ≤ nz ∧ i = .int .i64 j ∧ a = .int .i64 (st ys m1 wd gp j : Nat) ∧ wr = w4) (fun _ i _ => nz - (intOf i).toNat)
    case atStart => exact ⟨0, Nat.zero_le _, rfl, rfl, rfl⟩
    case round =>
      obtain ⟨j, hj, rfl, rfl, rfl⟩ := hrel
      have j0 : (0 : Int) ≤ (j : Int) := by omega
      have sj1 : IntKind.i64.wrap ((j : Int) + 1) = (j : Int) + 1 := IntWalk.i64_in _ (by omega)
      by_cases hlt : j < nz
      · have j1 : (j : Int) < (nz : Int) := by omega
        have gL := HC'.out j hlt
        have ov := OV.out j
        have li := LI.out j hlt
        have lg := LG.out j
        have ss := Lib.hid (SS.out j)
        generalize ln ys m1 wd gp (st ys m1 wd gp j) = L at *
        generalize st ys m1 wd gp j = S at *
        obtain ⟨G, hG⟩ : ∃ G, G = gp * ((L : Int) - 1) := ⟨_, rfl⟩
        have Gb : 0 ≤ G ∧ G ≤ 600 := by rw [hG]; exact ⟨Int.mul_nonneg hg0 (by omega), Int.le_trans (Int.mul_le_mul hg1 (show (L : Int) - 1 ≤ 12 by omega) (by omega) (by omega)) (by omega)⟩
        have sG : IntKind.i64.wrap (gp * ((L : Int) - 1)) = G := by rw [← hG]; exact IntWalk.i64_in _ (by omega)
        rw [← hG] at ov
        obtain ⟨Gb0, Gb1⟩ := Gb
        have sL : IntKind.i64.wrap ((L : Int) - 1) = (L : Int) - 1 := IntWalk.i64_in _ (by omega)
        have sS : IntKind.i64.wrap ((S : Int) + (L : Int)) = (S : Int) + (L : Int) := IntWalk.i64_in _ (by omega)
        clear hG
        go_wp2
        go_loopw [9, 10] (fun a i W2 => ∃ t : Nat, t ≤ L ∧ i = .int .i64 t ∧ a = .int .i64 (G + pws ys S t) ∧ W2 = wr) (fun _ i _ => L - (intOf i).toNat)
        case atStart => exact ⟨0, Nat.zero_le _, rfl, by simp [pws], rfl⟩
        case round =>
          obtain ⟨t, ht, rfl, rfl, rfl⟩ := hrel
          have t0 : (0 : Int) ≤ (t : Int) := by omega
          have pb := PB.out S t (by omega)
          obtain ⟨pb0, pb1⟩ := pb
          by_cases htl : t < L
          · have t1 : (t : Int) < (L : Int) := by omega
            have g0 := HC.out ((S + t) * 2) (by omega)
            have p1 : 0 ≤ ys.getD ((S + t) * 2) 0 ∧ ys.getD ((S + t) * 2) 0 ≤ 10000 := P1.out (S + t) (by omega)
            obtain ⟨p1a, p1b⟩ := p1
            have pe : Hid (pws ys S (t + 1) = pws ys S t + ys.getD ((S + t) * 2) 0) := Lib.hid rfl
            have s2 : IntKind.i64.wrap ((S : Int) + (t : Int)) = (S : Int) + (t : Int) := IntWalk.i64_in _ (by omega)
            have u0 : (0 : Int) ≤ (S : Int) + (t : Int) := by omega
            have u1 : (S : Int) + (t : Int) < (m1 : Int) := by omega
            have u2 : ((S : Int) + (t : Int)).toNat = S + t := by omega
            generalize ys.getD ((S + t) * 2) 0 = x at *
            generalize pws ys S t = P at *
            have s3 : IntKind.i64.wrap (G + P + x) = G + P + x := IntWalk.i64_in _ (by omega)
            go_wp2
            go_roundw
            case rel => exact ⟨t + 1, by omega, by go_num, by rw [pe.out, Int.add_assoc], trivial⟩
            case measure => simp [intOf]; omega
          · obtain rfl : t = L := by omega
            generalize pws ys S t = P at *
            have L1 : (1 : Int) ≤ (t : Int) := by omega
            by_cases h1 : 1 < t
            · have h1' : (1 : Int) < (t : Int) := by omega
              have ov := ov h1
              go_wp2
              go_roundw
              case rel => exact ⟨j + 1, by omega, by go_num, by rw [ss.out]; congr 1, trivial⟩
              case measure => simp [intOf]; omega
            · obtain rfl : t = 1 := by omega
              clear ov
              go_wp2
              go_roundw
              case rel => exact ⟨j + 1, by omega, by go_num, by rw [ss.out]; congr 1, trivial⟩
              case measure => simp [intOf]; omega
      · obtain rfl : j = nz := by omega
        rw [SN.out]
        go_wp2
        go_ret
        exact ⟨by simp, NN.out⟩
    
end Go.Proofs.Ytlmamglckamjjaa
