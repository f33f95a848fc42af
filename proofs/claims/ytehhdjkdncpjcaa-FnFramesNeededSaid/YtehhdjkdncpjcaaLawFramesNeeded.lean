/- The law FnFramesNeeded, walked: as many frames as are needed are enough, and one less is not. Condition: the code can be read. -/
import Derived.Test.YtehhdjkdncpjcaaDrawFr
import Derived.Test.YtehhdjkdncpjcaaFrameE
namespace Go.Proofs.Ytehhdjkdncpjcaa
open Go.RowKit

set_option maxHeartbeats 4000000 in
theorem lawFramesNeeded (A : Option Addr) (n c : Nat) (hn : n ≤ maxLen) (hnc : n ≤ c) (w : World) (hb : Bytes w A n) :
    Calls Try.prog 12 #[.slice A n c] w fun e w' => e = .returned (.bool true) ∧ New w w' := by
  have HB := Lib.hid hb; have HM := Lib.hid hn
  clear hb
  unfold maxLen at hn
  by_cases hbig : 1048576 < n
  · go_enter Try.func12, Try.ntmps12
    go_wp2
    go_ret
    exact ⟨rfl, by (repeat (first | exact New.refl _ | assumption | refine New.alloc ?_ _ | refine New.drew ?_ | refine New.drewN ?_ _ | refine New.setCell ?_ (by first | omega | (simp; omega) | (simp; done)) _ | refine New.trans ?_ (by assumption)))⟩
  have hm : (n : Int) ≤ 1048576 := by omega
  have hm0 : (0 : Int) ≤ (n : Int) := by omega
  go_enter Try.func12, Try.ntmps12
  go_wp2_with fail
  refine (DrawFramesNeeded_any A n c HM.out hnc _ HB.out).mono ?_
  rintro e w1 ⟨B1, m1, d1, ys, b, rfl, I1, l1, S1, sb, N1a⟩
  have s1 := N1a.le
  have N1 := Lib.hid ((New.refl w).trans N1a); clear N1a
  replace I1 := Lib.hid I1
  replace S1 := Lib.hid S1
  have LY := Lib.hid I1.out.len
  by_cases hj : jobB ys = true ∧ 1 ≤ b ∧ b ≤ 1000
  · obtain ⟨hj, b0, b1⟩ := hj
    have jy := jobB_iff.1 hj
    obtain ⟨a0, a1⟩ := jy.sum_bd
    have e1 : needA ys b = (ys.sum + b - 1) / b := by unfold needA; rw [if_pos ⟨hj, b0, b1⟩]
    have v0 : 0 ≤ (ys.sum + b - 1) / b := Int.ediv_nonneg (by omega) (by omega)
    have v1 : (ys.sum + b - 1) / b ≤ ys.sum + b - 1 := Int.ediv_le_self _ (by omega)
    have up_ := need_up (s := ys.sum) (b := b) b0
    have lo_ := need_low (s := ys.sum) (b := b) b0
    obtain ⟨sy, hsy⟩ : ∃ s, ys.sum = s := ⟨_, rfl⟩
    rw [hsy] at e1 v0 v1 a0 a1 up_ lo_
    obtain ⟨v, hv⟩ : ∃ v, (sy + b - 1) / b = v := ⟨_, rfl⟩
    rw [hv] at e1 v0 v1 up_ lo_
    obtain ⟨nn, rfl⟩ := Int.eq_ofNat_of_zero_le v0
    have E1 := Lib.hid e1
    have HY := Lib.hid hsy
    have JY := Lib.hid jy
    have m12 : m1 ≤ 12 := by have := jy.len; have := LY.out; omega
    clear e1 hv hsy
    by_cases hr : 1 ≤ nn ∧ nn ≤ 12
    · obtain ⟨r1, r2⟩ := hr
      have jr := Jobs.rep (b := b) nn r2 (by omega) b1
      have jr2 := Jobs.rep (b := b) (nn - 1) (by omega) (by omega) b1
      have f1 : (remA ys (List.replicate nn b)).sum = 0 := by
        unfold remA
        rw [if_pos (jobsB_iff.2 ⟨jy, jr⟩), rem_sum jy jr.sum_bd.1, rep_sum, HY.out]
        unfold mx
        omega
      obtain ⟨u, hu⟩ : ∃ u, (remA ys (List.replicate (nn - 1) b)).sum = u := ⟨_, rfl⟩
      have hu0 : 0 < u ∧ u ≤ 12000 := by
        rw [← hu]
        unfold remA
        rw [if_pos (jobsB_iff.2 ⟨jy, jr2⟩), rem_sum jy jr2.sum_bd.1, rep_sum, HY.out]
        have e : ((nn - 1 : Nat) : Int) * b = (nn : Int) * b - b := by
          rw [Int.natCast_sub r1, Int.sub_mul]
          simp
        rw [e]
        unfold mx
        omega
      obtain ⟨u0, u1⟩ := hu0
      have F1 := Lib.hid f1; have FU := Lib.hid hu
      have L1 : Hid ((remA ys (List.replicate nn b)).length = m1) := Lib.hid (by unfold remA; rw [if_pos (jobsB_iff.2 ⟨jy, jr⟩), remL_len]; exact LY.out)
      have L2 : Hid ((remA ys (List.replicate (nn - 1) b)).length = m1) := Lib.hid (by unfold remA; rw [if_pos (jobsB_iff.2 ⟨jy, jr2⟩), remL_len]; exact LY.out)
      have SA : Hid (Sml (remA ys (List.replicate nn b))) := Lib.hid (by unfold remA; rw [if_pos (jobsB_iff.2 ⟨jy, jr⟩)]; exact (rem_jobs jy).sml)
      have SB : Hid (Sml (remA ys (List.replicate (nn - 1) b))) := Lib.hid (by unfold remA; rw [if_pos (jobsB_iff.2 ⟨jy, jr2⟩)]; exact (rem_jobs jy).sml)
      have i1 : (1 : Int) ≤ (nn : Int) := by omega
      have i2 : (nn : Int) ≤ 12 := by omega
      clear hj jy jr jr2 f1 hu up_ lo_ v1 a0 a1
      go_wp2_with fail
      refine (FramesNeeded_any ys b B1 m1 d1 _ I1.out (by omega)).mono ?_
      rw [E1.out]
      rintro e w2 ⟨rfl, N2a⟩
      have s2 := N2a.le
      have I1 := Lib.hid (I1.out.new N2a)
      have N2 := Lib.hid (N1.out.trans N2a); clear N2a
      go_wp2_with fail
      refine (SFramesNeeded_any ys b B1 m1 d1 _ I1.out (by omega)).mono ?_
      rw [E1.out]
      rintro e w3 ⟨rfl, N3a⟩
      have s3 := N3a.le
      have I1 := Lib.hid (I1.out.new N3a)
      have N3 := Lib.hid (N2.out.trans N3a); clear N3a
      have O0 := Lib.hid (show Own w3.heap.size (w3.alloc (.cells #[] 3)) (.slice (some ⟨w3.heap.size, 0, none⟩) 0 0) (List.replicate 0 b) from Own.empty w3 0 (Nat.le_refl _) rfl)
      have N0 := Lib.hid ((New.refl w3).alloc (.cells #[] 3))
      go_wp2
      generalize w3.alloc (.cells #[] 3) = W0 at *
      go_loopw [6, 7] (fun v i wr => ∃ j : Nat, j ≤ nn ∧ i = .int .i64 j ∧ Hid (Own w3.heap.size wr v (List.replicate j b)) ∧ Hid (New w3 wr)) (fun _ i _ => nn - (intOf i).toNat)
      case atStart => exact ⟨0, Nat.zero_le _, rfl, O0, N0⟩
      case round =>
        obtain ⟨j, hj, rfl, HO, HN⟩ := hrel
        have j0 : (0 : Int) ≤ (j : Int) := by omega
        have sz1 := HN.out.le
        by_cases hlt : j < nn
        · have TK : Hid (List.replicate (j + 1) b = List.replicate j b ++ [b]) := Lib.hid List.replicate_succ'
          have j1 : (j : Int) < (nn : Int) := by omega
          go_wp2_with (at_builtin; refine wp_app2 rfl _ _ rfl w3.heap.size _ _ rfl (HO.out.alloc _) wr.heap.size b rfl (Ints.one wr _ _) (by rw [List.length_replicate]; omega) (by simp; omega) ?_; intro v6 w6 O6 G6 B6)
          have N6 := Lib.hid (new_own (HN.out.alloc _) G6 (HO.out.alloc _) (Nat.le_refl _))
          rw [← TK.out] at O6
          replace O6 := Lib.hid O6
          clear G6 B6
          go_roundw
          case rel => exact ⟨j + 1, by omega, by go_num, O6, N6⟩
          case measure => simp [intOf]; omega
        · obtain rfl : j = nn := by omega
          obtain ⟨A9, c9, hv9, hc9, Z9⟩ := HO.out.res
          rw [List.length_replicate] at hv9 hc9
          subst hv9
          obtain ⟨g, rfl, _, _, RW⟩ := Z9.2 (by rw [List.length_replicate]; exact r1)
          have J9 : Hid (Ints wr (some ⟨g, 0, none⟩) j (List.replicate j b)) := Lib.hid (by have h := RW.ints; rw [List.length_replicate] at h; exact h)
          have I1 := Lib.hid (I1.out.new HN.out)
          have NN := Lib.hid (N3.out.trans HN.out)
          have JD : Hid (∀ W, Ints W (some ⟨g, 0, none⟩) j (List.replicate j b) → Ints W (some ⟨g, 1, none⟩) (j - 1) (List.replicate (j - 1) b)) := Lib.hid (fun W h => by have h2 := h.drop_ (k := 1); rw [List.drop_replicate, Nat.zero_add] at h2; exact h2)
          clear Z9 RW HO HN
          go_wp2_with fail
          refine (WorkLeft_ans ys (List.replicate j b) B1 m1 d1 _ j c9 _ I1.out J9.out (by omega) (by omega)).mono ?_
          rintro e w7 ⟨A7, n7, c7, rfl, l7, r7, N7⟩
          obtain rfl : m1 = n7 := by have := L1.out; omega
          have J9 := Lib.hid (J9.out.new N7); have I1 := Lib.hid (I1.out.new N7); have NN := Lib.hid (NN.out.trans N7)
          have R7 := Lib.hid r7
          clear N7 l7 r7
          go_wp2_with fail
          refine (lsum_any A7 m1 c7 _ (by omega) _ (R7.out.ints L1.out) SA.out).mono ?_
          rw [F1.out]
          rintro e w' ⟨rfl, rfl⟩
          have jw : Hid (j - 1 ≤ 1048576) := Lib.hid (by omega)
          by_cases hc : c9 = 1
          · have hj1 : j = 1 := by omega
            subst hc hj1
            go_wp2_with fail
            refine (WorkLeft_ans ys (List.replicate (1 - 1) b) B1 m1 d1 _ _ _ _ I1.out (Ints.nothing (by simp)) (by omega) (by omega)).mono ?_
            rintro e w8 ⟨A8, n8, c8, rfl, l8, r8, N8⟩
            obtain rfl : m1 = n8 := by have := L2.out; omega
            have NN := Lib.hid (NN.out.trans N8)
            have R8 := Lib.hid r8
            clear N8 l8 r8
            go_wp2_with fail
            refine (lsum_any A8 m1 c8 _ (by omega) _ (R8.out.ints L2.out) SB.out).mono ?_
            rw [FU.out]
            rintro e w' ⟨rfl, rfl⟩
            go_wp2
            go_ret
            exact ⟨rfl, NN.out⟩
          · have hc2 : 2 ≤ c9 := by omega
            have hi2 : (2 : Int) ≤ (c9 : Int) := by omega
            have hj9 : (j : Int) ≤ (c9 : Int) := by omega
            go_wp2_with fail
            refine (WorkLeft_ans ys (List.replicate (j - 1) b) B1 m1 d1 _ _ _ _ I1.out (JD.out _ J9.out) (by omega) jw.out).mono ?_
            rintro e w8 ⟨A8, n8, c8, rfl, l8, r8, N8⟩
            obtain rfl : m1 = n8 := by have := L2.out; omega
            have NN := Lib.hid (NN.out.trans N8)
            have R8 := Lib.hid r8
            clear N8 l8 r8
            go_wp2_with fail
            refine (lsum_any A8 m1 c8 _ (by omega) _ (R8.out.ints L2.out) SB.out).mono ?_
            rw [FU.out]
            rintro e w' ⟨rfl, rfl⟩
            go_wp2
            go_ret
            exact ⟨rfl, NN.out⟩
    · have hr2 : (nn : Int) < 1 ∨ (1 : Int) ≤ (nn : Int) ∧ (12 : Int) < (nn : Int) := by omega
      clear hr hj jy up_ lo_ v1 a0 a1
      rcases hr2 with hr2 | ⟨hr2, hr3⟩
      · skip
        go_wp2_with fail
        refine (FramesNeeded_any ys b B1 m1 d1 _ I1.out (by omega)).mono ?_
        rw [E1.out]
        rintro e w2 ⟨rfl, N2a⟩
        have s2 := N2a.le
        have I1 := Lib.hid (I1.out.new N2a)
        have N2 := Lib.hid (N1.out.trans N2a); clear N2a
        go_wp2_with fail
        refine (SFramesNeeded_any ys b B1 m1 d1 _ I1.out (by omega)).mono ?_
        rw [E1.out]
        rintro e w3 ⟨rfl, N3a⟩
        have s3 := N3a.le
        have I1 := Lib.hid (I1.out.new N3a)
        have N3 := Lib.hid (N2.out.trans N3a); clear N3a
        go_wp2_with fail
        refine (SFramesNeeded_any ys b B1 m1 d1 _ I1.out (by omega)).mono ?_
        rw [E1.out]
        rintro e w4 ⟨rfl, N4a⟩
        have s4 := N4a.le
        have I1 := Lib.hid (I1.out.new N4a)
        have N4 := Lib.hid (N3.out.trans N4a); clear N4a
        go_wp2
        go_ret
        exact ⟨rfl, N4.out⟩
      · skip
        go_wp2_with fail
        refine (FramesNeeded_any ys b B1 m1 d1 _ I1.out (by omega)).mono ?_
        rw [E1.out]
        rintro e w2 ⟨rfl, N2a⟩
        have s2 := N2a.le
        have I1 := Lib.hid (I1.out.new N2a)
        have N2 := Lib.hid (N1.out.trans N2a); clear N2a
        go_wp2_with fail
        refine (SFramesNeeded_any ys b B1 m1 d1 _ I1.out (by omega)).mono ?_
        rw [E1.out]
        rintro e w3 ⟨rfl, N3a⟩
        have s3 := N3a.le
        have I1 := Lib.hid (I1.out.new N3a)
        have N3 := Lib.hid (N2.out.trans N3a); clear N3a
        go_wp2_with fail
        refine (SFramesNeeded_any ys b B1 m1 d1 _ I1.out (by omega)).mono ?_
        rw [E1.out]
        rintro e w4 ⟨rfl, N4a⟩
        have s4 := N4a.le
        have I1 := Lib.hid (I1.out.new N4a)
        have N4 := Lib.hid (N3.out.trans N4a); clear N4a
        go_wp2
        go_ret
        exact ⟨rfl, N4.out⟩
  · have E1 : Hid (needA ys b = -1) := Lib.hid (by unfold needA; rw [if_neg hj])
    clear hj
    go_wp2_with fail
    refine (FramesNeeded_any ys b B1 m1 d1 _ I1.out (by omega)).mono ?_
    rw [E1.out]
    rintro e w2 ⟨rfl, N2a⟩
    have s2 := N2a.le
    have I1 := Lib.hid (I1.out.new N2a)
    have N2 := Lib.hid (N1.out.trans N2a); clear N2a
    go_wp2_with fail
    refine (SFramesNeeded_any ys b B1 m1 d1 _ I1.out (by omega)).mono ?_
    rw [E1.out]
    rintro e w3 ⟨rfl, N3a⟩
    have s3 := N3a.le
    have I1 := Lib.hid (I1.out.new N3a)
    have N3 := Lib.hid (N2.out.trans N3a); clear N3a
    go_wp2_with fail
    refine (SFramesNeeded_any ys b B1 m1 d1 _ I1.out (by omega)).mono ?_
    rw [E1.out]
    rintro e w4 ⟨rfl, N4a⟩
    have s4 := N4a.le
    have I1 := Lib.hid (I1.out.new N4a)
    have N4 := Lib.hid (N3.out.trans N4a); clear N4a
    go_wp2
    go_ret
    exact ⟨rfl, N4.out⟩
end Go.Proofs.Ytehhdjkdncpjcaa
