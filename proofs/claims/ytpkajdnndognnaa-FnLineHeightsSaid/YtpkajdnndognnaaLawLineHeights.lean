/- The law FnLineHeights, walked: for every code. Condition: the code can be read. -/
import Derived.Test.YtpkajdnndognnaaDrawPl
import Derived.Test.YtpkajdnndognnaaPrtD
import Derived.Test.YtpkajdnndognnaaPrtG
import Derived.Test.YtpkajdnndognnaaPrtC
import Derived.Test.YtpkajdnndognnaaPrtK
import Derived.Test.YtpkajdnndognnaaPrtZ
import Derived.Test.YtpkajdnndognnaaPrtT
namespace Go.Proofs.Ytpkajdnndognnaa
open Go.RowKit

set_option maxHeartbeats 4000000 in
theorem lawLineHeights (A : Option Addr) (n c : Nat) (hn : n ≤ maxLen) (hnc : n ≤ c) (w : World) (hb : Bytes w A n) :
    Calls Try.prog 4 #[.slice A n c] w fun e w' => e = .returned (.bool true) ∧ New w w' := by
  have HB := Lib.hid hb; have HM := Lib.hid hn
  clear hb
  unfold maxLen at hn
  by_cases hbig : 1048576 < n
  · go_enter Try.func4, Try.ntmps4
    go_wp2
    go_ret
    exact ⟨rfl, by (repeat (first | exact New.refl _ | assumption | refine New.alloc ?_ _ | refine New.drew ?_ | refine New.drewN ?_ _ | refine New.setCell ?_ (by first | omega | (simp; omega) | (simp; done)) _ | refine New.trans ?_ (by assumption)))⟩
  have hm : (n : Int) ≤ 1048576 := by omega
  have hm0 : (0 : Int) ≤ (n : Int) := by omega
  go_enter Try.func4, Try.ntmps4
  go_wp2_with fail
  refine (DrawLineHeights_any A n c HM.out hnc _ HB.out).mono ?_
  rintro e w1 ⟨B1, m1, d1, ys, wd, gp, rfl, I1, dc, l1, T1, wb, gb, N1a⟩
  have s1 := N1a.le
  have N1 := Lib.hid ((New.refl w).trans N1a); clear N1a
  replace I1 := Lib.hid I1; replace T1 := Lib.hid T1
  have y0 : (0 : Int) ≤ (m1 : Int) := by omega
  have y1 : (m1 : Int) ≤ 13 := by omega
  clear T1
  have LL := lhc_len (zs := ys) (n := m1) (wd := wd) (gap := gp)
  by_cases hz : lhA ys m1 wd gp = []
  · have HZ := Lib.hid hz
    have HC : Hid (lcA ys m1 wd gp = []) := Lib.hid (List.length_eq_zero_iff.1 (by rw [← LL, hz]; rfl))
    clear hz LL
    go_wp2_with fail
    refine (LineHeights_any B1 m1 d1 ys wd gp (by omega) dc _ I1.out).mono ?_
    rintro e w2 ⟨A2, n2, c2, rfl, l2, r2, N2a⟩
    have s2 := N2a.le
    have I1 := Lib.hid (I1.out.new N2a)
    have N2 := Lib.hid (N1.out.trans N2a); clear N2a
    rw [HZ.out] at l2 r2
    obtain rfl : 0 = n2 := by simpa using l2
    have R2 := Lib.hid r2; clear l2 r2
    go_wp2_with fail
    refine (LineCounts_any B1 m1 d1 ys wd gp (by omega) dc _ I1.out).mono ?_
    rintro e w3 ⟨A3, n3, c3, rfl, l3, r3, N3a⟩
    have s3 := N3a.le
    have I1 := Lib.hid (I1.out.new N3a)
    have R2 := Lib.hid (R2.out.new N3a)
    have N3 := Lib.hid (N2.out.trans N3a); clear N3a
    rw [HC.out] at l3 r3
    obtain rfl : 0 = n3 := by simpa using l3
    have R3 := Lib.hid r3; clear l3 r3
    go_wp2_with fail
    refine (SLineHeights_ans B1 m1 d1 ys wd gp (by omega) _ I1.out).mono ?_
    rintro e w4 ⟨A4, n4, c4, rfl, l4, r4, N4a⟩
    have s4 := N4a.le
    have I1 := Lib.hid (I1.out.new N4a)
    have R2 := Lib.hid (R2.out.new N4a)
    have R3 := Lib.hid (R3.out.new N4a)
    have N4 := Lib.hid (N3.out.trans N4a); clear N4a
    rw [HZ.out] at l4 r4
    obtain rfl : 0 = n4 := by simpa using l4
    have R4 := Lib.hid r4; clear l4 r4
    go_wp2_with fail
    refine (equalInts_any _ _ 0 0 _ _ [] [] (by omega) (by omega) _ (R2.out.ints rfl) (R4.out.ints rfl)).mono ?_
    (rw [decide_eq_true rfl]; rintro e w5 ⟨rfl, N5a⟩)
    have s5 := N5a.le
    have I1 := Lib.hid (I1.out.new N5a)
    have R2 := Lib.hid (R2.out.new N5a)
    have R3 := Lib.hid (R3.out.new N5a)
    have R4 := Lib.hid (R4.out.new N5a)
    have N5 := Lib.hid (N4.out.trans N5a); clear N5a
    go_wp2_with fail
    refine (SLineHeights_ans B1 m1 d1 ys wd gp (by omega) _ I1.out).mono ?_
    rintro e w6 ⟨A6, n6, c6, rfl, l6, r6, N6a⟩
    have s6 := N6a.le
    have I1 := Lib.hid (I1.out.new N6a)
    have R2 := Lib.hid (R2.out.new N6a)
    have R3 := Lib.hid (R3.out.new N6a)
    have R4 := Lib.hid (R4.out.new N6a)
    have N6 := Lib.hid (N5.out.trans N6a); clear N6a
    rw [HZ.out] at l6 r6
    obtain rfl : 0 = n6 := by simpa using l6
    have R6 := Lib.hid r6; clear l6 r6
    go_wp2_with fail
    refine (equalInts_any _ _ 0 0 _ _ [] [] (by omega) (by omega) _ (R2.out.ints rfl) (R6.out.ints rfl)).mono ?_
    (rw [decide_eq_true rfl]; rintro e w7 ⟨rfl, N7a⟩)
    have s7 := N7a.le
    have I1 := Lib.hid (I1.out.new N7a)
    have R2 := Lib.hid (R2.out.new N7a)
    have R3 := Lib.hid (R3.out.new N7a)
    have R4 := Lib.hid (R4.out.new N7a)
    have R6 := Lib.hid (R6.out.new N7a)
    have N7 := Lib.hid (N6.out.trans N7a); clear N7a
    go_wp2
    go_ret
    exact ⟨rfl, N7.out⟩
  · have zp : 0 < (lhA ys m1 wd gp).length := List.length_pos_iff.2 hz
    have zc := lhA_len (zs := ys) (n := m1) (wd := wd) (gap := gp)
    obtain ⟨nz, LZ⟩ : ∃ nz, Hid ((lhA ys m1 wd gp).length = nz) := ⟨_, Lib.hid rfl⟩
    have LC : Hid ((lcA ys m1 wd gp).length = nz) := Lib.hid (by rw [← LL]; exact LZ.out)
    have z1 : 1 ≤ nz := by have := LZ.out; omega
    have z8 : nz ≤ 1048576 := by have := LZ.out; omega
    have zi : (1 : Int) ≤ (nz : Int) := by omega
    have zj : (nz : Int) ≤ 1048576 := by omega
    have zb : ((nz : Int) == 0) = false := by simp; omega
    have NE := Lib.hid hz
    clear hz zp zc LL
    go_wp2_with fail
    refine (LineHeights_any B1 m1 d1 ys wd gp (by omega) dc _ I1.out).mono ?_
    rintro e w2 ⟨A2, n2, c2, rfl, l2, r2, N2a⟩
    have s2 := N2a.le
    have I1 := Lib.hid (I1.out.new N2a)
    have N2 := Lib.hid (N1.out.trans N2a); clear N2a
    obtain rfl : nz = n2 := by have := LZ.out; omega
    have R2 := Lib.hid r2; clear l2 r2
    go_wp2_with fail
    refine (LineCounts_any B1 m1 d1 ys wd gp (by omega) dc _ I1.out).mono ?_
    rintro e w3 ⟨A3, n3, c3, rfl, l3, r3, N3a⟩
    have s3 := N3a.le
    have I1 := Lib.hid (I1.out.new N3a)
    have R2 := Lib.hid (R2.out.new N3a)
    have N3 := Lib.hid (N2.out.trans N3a); clear N3a
    obtain rfl : nz = n3 := by have := LC.out; omega
    have R3 := Lib.hid r3; clear l3 r3
    go_wp2_with fail
    refine (SLineHeights_ans B1 m1 d1 ys wd gp (by omega) _ I1.out).mono ?_
    rintro e w4 ⟨A4, n4, c4, rfl, l4, r4, N4a⟩
    have s4 := N4a.le
    have I1 := Lib.hid (I1.out.new N4a)
    have R2 := Lib.hid (R2.out.new N4a)
    have R3 := Lib.hid (R3.out.new N4a)
    have N4 := Lib.hid (N3.out.trans N4a); clear N4a
    obtain rfl : nz = n4 := by have := LZ.out; omega
    have R4 := Lib.hid r4; clear l4 r4
    go_wp2_with fail
    refine (equalInts_any _ _ nz nz _ _ _ _ (by omega) (by omega) _ (R2.out.ints LZ.out) (R4.out.ints LZ.out)).mono ?_
    (rw [decide_eq_true rfl]; rintro e w5 ⟨rfl, N5a⟩)
    have s5 := N5a.le
    have I1 := Lib.hid (I1.out.new N5a)
    have R2 := Lib.hid (R2.out.new N5a)
    have R3 := Lib.hid (R3.out.new N5a)
    have R4 := Lib.hid (R4.out.new N5a)
    have N5 := Lib.hid (N4.out.trans N5a); clear N5a
    have hok : wrOk ys m1 wd gp = true := by
      have h := NE.out
      cases hk : wrOk ys m1 wd gp
      · rw [lhA, hk] at h; exact absurd rfl h
      · rfl
    have mp : 0 < m1 := by
      rcases Nat.eq_zero_or_pos m1 with rfl | h
      · exact absurd (by rw [lhA, if_pos hok]; rfl) NE.out
      · exact h
    obtain ⟨hv1, hw, hg⟩ := wrOk_iff.1 hok
    have el : lcA ys m1 wd gp = cnL ys m1 wd gp (nl ys m1 wd gp) := by rw [lcA, if_pos hok]
    have eh : lhA ys m1 wd gp = htL ys m1 wd gp (nl ys m1 wd gp) := by rw [lhA, if_pos hok]
    have en : nl ys m1 wd gp = nz := by have h := LZ.out; rw [eh, htL_len] at h; exact h
    rw [en] at el eh
    have n12 := n_le hv1
    have nzm : nz ≤ m1 := by rw [← en]; exact nl_le
    obtain ⟨b, off, rfl, hb, hc⟩ := I1.out.at_ mp
    obtain ⟨b', off', e', hb', hc'⟩ := (R3.out.ints LC.out).at_ (by omega)
    subst e'
    obtain ⟨b2, off2, e', hb2, hc2⟩ := (R2.out.ints LZ.out).at_ (by omega)
    subst e'
    have CP : Hid (∀ t, t < m1 → w5.cell? ⟨b, off + t * 2 + 1, none⟩ = some (.int .i64 (ph ys t))) := Lib.hid (fun t ht => hc (t * 2 + 1) (by omega))
    have CC : Hid (∀ k, k < nz → w5.cell? ⟨b', off' + k, none⟩ = some (.int .i64 (ln ys m1 wd gp (st ys m1 wd gp k) : Nat))) := Lib.hid (fun k hk => by
      have h := hc' k hk
      rw [el, cnL_at hk] at h
      exact h)
    have CH : Hid (∀ k, k < nz → w5.cell? ⟨b2, off2 + k, none⟩ = some (.int .i64 (lnH ys m1 wd gp k))) := Lib.hid (fun k hk => by
      have h := hc2 k hk
      rw [eh, htL_at hk] at h
      exact h)
    have SE : Hid ((lcA ys m1 wd gp).sum = (m1 : Int)) := Lib.hid (by rw [el, cnL_sum, ← en, st_nl])
    have SM : Hid (Sml (lcA ys m1 wd gp)) := Lib.hid (fun z hz => by
      rw [el] at hz
      obtain ⟨i, hi, rfl⟩ := List.mem_map.1 hz
      have := line_in (zs := ys) (n := m1) (wd := wd) (gap := gp) (k := i) (by rw [en]; exact List.mem_range.1 hi)
      omega)
    have LI := Lib.hid (fun k (hk : k < nz) => line_in (zs := ys) (n := m1) (wd := wd) (gap := gp) (k := k) (by rw [en]; exact hk))
    have LG := Lib.hid (fun k => ln_ge (zs := ys) (n := m1) (wd := wd) (gap := gp) (st ys m1 wd gp k))
    have SS := Lib.hid (fun k => st_succ (zs := ys) (n := m1) (wd := wd) (gap := gp) k)
    have GE := Lib.hid (fun k t (h : t < ln ys m1 wd gp (st ys m1 wd gp k)) => (show ph ys (st ys m1 wd gp k + t) ≤ lnH ys m1 wd gp k from mxh_ge h))
    have AT := Lib.hid (fun k (hk : k < nz) => (show ∃ t, t < ln ys m1 wd gp (st ys m1 wd gp k) ∧ ph ys (st ys m1 wd gp k + t) = lnH ys m1 wd gp k from mxh_at (ln_ge _) (fun t ht => (pr_bd hv1 (by have := line_in (zs := ys) (n := m1) (wd := wd) (gap := gp) (k := k) (by rw [en]; exact hk); omega)).2.1)))
    have IR := Lib.hid (R3.out.ints LC.out)
    have NN := Lib.hid N5.out
    have B3 := Lib.hid (And.intro hb (And.intro hb' hb2))
    clear hc hc' hc2 hb hb' hb2 hok hv1 hw hg el eh en
    go_wp2_with (go_at_call 26; refine (lsum_any _ nz c3 _ (by omega) _ IR.out SM.out).mono ?_; rw [SE.out]; rintro e w' ⟨rfl, rfl⟩)
    go_loopw [8, 9] (fun a i wr => ∃ j : Nat, j ≤ nz ∧ i = .int .i64 j ∧ a = .int .i64 (st ys m1 wd gp j : Nat) ∧ Hid (New w5 wr)) (fun _ i _ => nz - (intOf i).toNat)
    case atStart => exact ⟨0, Nat.zero_le _, rfl, rfl, Lib.hid (New.refl _)⟩
    case round =>
      obtain ⟨j, hj, rfl, rfl, HM⟩ := hrel
      have j0 : (0 : Int) ≤ (j : Int) := by omega
      by_cases hlt : j < nz
      · have j1 : (j : Int) < (nz : Int) := by omega
        have cc := Lib.hid (CC.out j hlt)
        have ch := Lib.hid (CH.out j hlt)
        have li := LI.out j hlt
        have lg := LG.out j
        have ss := Lib.hid (SS.out j)
        have ge := Lib.hid (GE.out j)
        have at_ := Lib.hid (AT.out j hlt)
        generalize ln ys m1 wd gp (st ys m1 wd gp j) = L at *
        generalize st ys m1 wd gp j = S at *
        generalize lnH ys m1 wd gp j = H at *
        go_wp2
        go_loopw [8, 10, 11] (fun a v i W2 => ∃ t : Nat, t ≤ L ∧ i = .int .i64 t ∧ a = .int .i64 ((S : Int) + (t : Int)) ∧ ∃ vb : Bool, v = .bool vb ∧ Hid (vb = true ∨ ∀ u, u < t → ph ys (S + u) ≠ H) ∧ Hid (New w5 W2)) (fun _ _ i _ => L - (intOf i).toNat)
        case atStart => exact ⟨0, Nat.zero_le _, rfl, by simp, false, rfl, Lib.hid (.inr (fun u hu => absurd hu (Nat.not_lt_zero _))), HM⟩
        case round =>
          obtain ⟨t, ht, rfl, rfl, vb, rfl, HF, HW⟩ := hrel
          have t0 : (0 : Int) ≤ (t : Int) := by omega
          have gc := (HW.out.cells b' _ B3.out.2.1).trans cc.out
          by_cases htl : t < L
          · have t1 : (t : Int) < (L : Int) := by omega
            have g0 := (HW.out.cells b _ B3.out.1).trans (CP.out (S + t) (by omega))
            have gh := (HW.out.cells b2 _ B3.out.2.2).trans ch.out
            have le := ge.out t htl
            have HF1 : Hid (ph ys (S + t) ≠ H → vb = true ∨ ∀ u, u < t + 1 → ph ys (S + u) ≠ H) := Lib.hid (fun hne => by
              rcases HF.out with h | h
              · exact .inl h
              · exact .inr (fun u hu => by
                  rcases Nat.lt_or_ge u t with h1 | h1
                  · exact h u h1
                  · obtain rfl : u = t := by omega
                    exact hne))
            have s2 : IntKind.i64.wrap ((S : Int) + (t : Int)) = (S : Int) + (t : Int) := IntWalk.i64_in _ (by omega)
            have u0 : (0 : Int) ≤ (S : Int) + (t : Int) := by omega
            have u1 : (S : Int) + (t : Int) < (m1 : Int) := by omega
            have u2 : ((S : Int) + (t : Int)).toNat = S + t := by omega
            have u3 : IntKind.i64.wrap ((S : Int) + (t : Int) + 1) = (S : Int) + (t : Int) + 1 := IntWalk.i64_in _ (by omega)
            have cp := Lib.hid (CP.out (S + t) (by omega))
            generalize ph ys (S + t) = x at g0 le HF1 cp
            have nle : ¬ (H < x) := by omega
            cases vb
            · by_cases hx : x = H
              · subst hx
                have hxe : (x == x) = true := by simp
                go_wp2
                go_quiet (fail)
                have NQ := Lib.hid (HW.out.drewN nq)
                generalize wr.drewN nq = W5 at NQ ⊢
                have g2 := (NQ.out.cells b _ B3.out.1).trans cp.out
                have g3 := (NQ.out.cells b2 _ B3.out.2.2).trans ch.out
                go_wp2
                go_quiet (fail)
                have NR := Lib.hid (NQ.out.drewN nq)
                generalize W5.drewN nq = W6 at NR ⊢
                go_wp2
                go_roundw
                case rel => exact ⟨t + 1, by omega, by go_num, by go_num, true, rfl, Lib.hid (.inl rfl), NR⟩
                case measure => simp [intOf]; omega
              · have hxe : (x == H) = false := by simpa using hx
                have HG := Lib.hid (HF1.out hx)
                go_wp2
                go_quiet (fail)
                have NQ := Lib.hid (HW.out.drewN nq)
                generalize wr.drewN nq = W5 at NQ ⊢
                have g2 := (NQ.out.cells b _ B3.out.1).trans cp.out
                have g3 := (NQ.out.cells b2 _ B3.out.2.2).trans ch.out
                go_wp2
                go_quiet (fail)
                have NR := Lib.hid (NQ.out.drewN nq)
                generalize W5.drewN nq = W6 at NR ⊢
                go_wp2
                go_roundw
                case rel => exact ⟨t + 1, by omega, by go_num, by go_num, false, rfl, Lib.hid (HG.out), NR⟩
                case measure => simp [intOf]; omega
            · clear HF1
              go_wp2
              go_quiet (fail)
              have NQ := Lib.hid (HW.out.drewN nq)
              generalize wr.drewN nq = W5 at NQ ⊢
              have g2 := (NQ.out.cells b _ B3.out.1).trans cp.out
              have g3 := (NQ.out.cells b2 _ B3.out.2.2).trans ch.out
              go_wp2
              go_quiet (fail)
              have NR := Lib.hid (NQ.out.drewN nq)
              generalize W5.drewN nq = W6 at NR ⊢
              go_wp2
              go_roundw
              case rel => exact ⟨t + 1, by omega, by go_num, by go_num, true, rfl, Lib.hid (.inl rfl), NR⟩
              case measure => simp [intOf]; omega
          · obtain rfl : t = L := by omega
            obtain rfl : vb = true := by
              rcases HF.out with h | h
              · exact h
              · obtain ⟨u, hu, e⟩ := at_.out
                exact absurd e (h u hu)
            go_wp2
            go_roundw
            case rel => exact ⟨j + 1, by omega, by go_num, by rw [ss.out]; congr 1, HW⟩
            case measure => simp [intOf]; omega
      · obtain rfl : j = nz := by omega
        go_wp2
        go_ret
        exact ⟨rfl, NN.out.trans HM.out⟩
end Go.Proofs.Ytpkajdnndognnaa
