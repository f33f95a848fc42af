/- The law FnShareSpaceEven, walked: equal weights share evenly, the greater shares first. Condition: the code can be read. -/
import Derived.Test.YtplgfifbahhpcaaDrawSh
import Derived.Test.YtplgfifbahhpcaaShareZ
import Derived.Test.YtplgfifbahhpcaaShareE
namespace Go.Proofs.Ytplgfifbahhpcaa
open Go.RowKit

set_option maxHeartbeats 4000000 in
theorem lawShareSpaceEven (A : Option Addr) (n c : Nat) (hn : n ≤ maxLen) (hnc : n ≤ c) (w : World) (hb : Bytes w A n) :
    Calls Try.prog 6 #[.slice A n c] w fun e w' => e = .returned (.bool true) ∧ New w w' := by
  have HB := Lib.hid hb; have HM := Lib.hid hn
  clear hb
  unfold maxLen at hn
  by_cases hbig : 1048576 < n
  · go_enter Try.func6, Try.ntmps6
    go_wp2
    go_ret
    exact ⟨rfl, by (repeat (first | exact New.refl _ | assumption | refine New.alloc ?_ _ | refine New.drew ?_ | refine New.drewN ?_ _ | refine New.setCell ?_ (by first | omega | (simp; omega) | (simp; done)) _ | refine New.trans ?_ (by assumption)))⟩
  have hm : (n : Int) ≤ 1048576 := by omega
  have hm0 : (0 : Int) ≤ (n : Int) := by omega
  go_enter Try.func6, Try.ntmps6
  go_wp2_with fail
  refine (DrawShareSpace_any A n c HM.out hnc _ HB.out).mono ?_
  rintro e w1 ⟨x, B1, m1, d1, ys, rfl, xb, I1, l1, S1, N1a⟩
  have s1 := N1a.le
  have N1 := Lib.hid ((New.refl w).trans N1a); clear N1a
  have I1 := Lib.hid I1; have S1 := Lib.hid S1; have LY := Lib.hid I1.out.len
  have y0 : (0 : Int) ≤ (m1 : Int) := by omega
  have y1 : (m1 : Int) ≤ 10 := by omega
  by_cases hok : shOk x ys = true
  · have hz : shareA x ys = shareL x ys := if_pos hok
    have hko := hok
    unfold shOk at hko
    rw [Bool.and_eq_true, decide_eq_true_eq] at hko
    obtain ⟨hx, hrow⟩ := hko
    obtain ⟨⟨q1, q8⟩, hw⟩ := rowB_iff.1 hrow
    have HW : Hid (Wts ys) := Lib.hid hw
    have LZ : Hid ((shareL x ys).length = m1) := Lib.hid ((shareL_len x ys).trans LY.out)
    have zl : (shareL x ys).length ≤ 8 := by have := LZ.out; have := LY.out; omega
    have m1l : 1 ≤ m1 := by have := LY.out; omega
    have m8 : m1 ≤ 8 := by have := LY.out; omega
    have HZ := Lib.hid hz; have HX := Lib.hid hx
    have ml : (1 : Int) ≤ (m1 : Int) := by omega
    have mlb : ((m1 : Int) == 0) = false := by simp; omega
    clear hok hx hrow hw q1 q8 hz
    go_wp2_with fail
    refine (ShareSpace_ans x ys B1 m1 d1 _ I1.out (by omega)).mono ?_
    rintro e w2 ⟨A2, n2, c2, rfl, l2, r2, N2a⟩
    have s2 := N2a.le
    have I1 := Lib.hid (I1.out.new N2a)
    have N2 := Lib.hid (N1.out.trans N2a); clear N2a
    rw [HZ.out] at l2 r2
    obtain rfl : m1 = n2 := by have := LZ.out; omega
    have R2 := Lib.hid r2
    go_wp2_with fail
    refine (SShareSpace_ans x ys B1 m1 d1 _ I1.out (by omega)).mono ?_
    rintro e w3 ⟨A3, n3, c3, rfl, l3, r3, N3a⟩
    have s3 := N3a.le
    have I1 := Lib.hid (I1.out.new N3a)
    have R2 := Lib.hid (R2.out.new N3a)
    have N3 := Lib.hid (N2.out.trans N3a); clear N3a
    rw [HZ.out] at l3 r3
    obtain rfl : m1 = n3 := by have := LZ.out; omega
    have R3 := Lib.hid r3
    clear l2 l3 r2 r3
    go_wp2_with fail
    refine (equalInts_any _ _ m1 m1 _ _ _ _ (by omega) (by omega) _ (R2.out.ints LZ.out) (R3.out.ints LZ.out)).mono ?_
    rw [decide_eq_true rfl]
    rintro e w4 ⟨rfl, N4a⟩
    have s4 := N4a.le
    have I1 := Lib.hid (I1.out.new N4a)
    have R2 := Lib.hid (R2.out.new N4a)
    have R3 := Lib.hid (R3.out.new N4a)
    have N4 := Lib.hid (N3.out.trans N4a); clear N4a
    have NN := Lib.hid N4.out
    go_wp2
    go_loopw [6, 7] (fun v i wr => ∃ k : Nat, k ≤ m1 ∧ i = .int .i64 k ∧ Hid (Own w4.heap.size wr v (onesL k)) ∧ Hid (New w4 wr)) (fun _ i _ => m1 - (intOf i).toNat)
    case atStart => exact ⟨0, Nat.zero_le _, rfl, Lib.hid (Own.empty w4 0 (Nat.le_refl _) rfl), Lib.hid (by (repeat (first | exact New.refl _ | assumption | refine New.alloc ?_ _ | refine New.drew ?_ | refine New.drewN ?_ _ | refine New.setCell ?_ (by first | omega | (simp; omega) | (simp; done)) _ | refine New.trans ?_ (by assumption))))⟩
    case round =>
      obtain ⟨k, hk, rfl, HO, HNr⟩ := hrel
      have sz := HNr.out.le
      by_cases hlt : k < m1
      · have k0 : (0 : Int) ≤ (k : Int) := by omega
        have k1 : (k : Int) < (m1 : Int) := by omega
        go_wp2_with (at_builtin; refine wp_app rfl _ _ rfl w4.heap.size _ _ rfl (HO.out.alloc _) (some ⟨wr.heap.size, 0, none⟩) 1 1 [1] rfl (Ints.one wr _ _) (by rw [ones_len]; omega) (by simp; omega) ?_; intro v6 w6 O6 G6; (have N6 := Lib.hid (new_own (HNr.out.alloc _) G6 (HO.out.alloc _) (Nat.le_refl _))); (have O6 := Lib.hid O6); clear G6)
        go_wp2
        go_roundw
        case rel => exact ⟨k + 1, by omega, by go_num, Lib.hid (by have h := O6.out; unfold onesL at h ⊢; rw [List.replicate_succ']; exact h), N6⟩
        case measure => simp [intOf]; omega
      · obtain rfl : k = m1 := by omega
        obtain ⟨B5, c5, rfl, _, Z5⟩ := HO.out.res
        have ok3 : shOk x (onesL k) = true := by
          unfold shOk
          rw [Bool.and_eq_true, decide_eq_true_eq]
          exact ⟨HX.out, rowB_iff.2 ⟨by rw [ones_len]; omega, ones_wts k⟩⟩
        have HZ3 : Hid (shareA x (onesL k) = shareL x (onesL k)) := Lib.hid (by unfold shareA; rw [if_pos ok3])
        have I5 := Lib.hid (Z5.ints (ones_len k))
        rw [ones_len]
        have L5 : Hid ((shareL x (onesL k)).length = k) := Lib.hid ((shareL_len x _).trans (ones_len k))
        clear ok3 Z5 NN
        have NN := Lib.hid (N4.out.trans HNr.out)
        go_wp2_with fail
        refine (ShareSpace_ans x (onesL k) B5 k c5 _ I5.out (by omega)).mono ?_
        rw [HZ3.out]
        rintro e w7 ⟨A7, n7, c7, rfl, l7, r7, N7⟩
        obtain rfl : k = n7 := by have := L5.out; omega
        have R7 := Lib.hid r7; have N7 := Lib.hid (NN.out.trans N7)
        clear r7 l7
        obtain ⟨b, off, rfl, hb, hc⟩ := (R7.out.ints L5.out).at_ (by omega)
        have HC := Lib.hid hc
        have g0 : w7.cell? ⟨b, off, none⟩ = some (.int .i64 ((shareL x (onesL k)).getD 0 0)) := hc 0 (by omega)
        have I7 := Lib.hid (R7.out.ints L5.out)
        have esum := Lib.hid (even_sum (a := x) HX.out.1 m1l)
        have hsm : Hid (Sml (shareL x (onesL k))) := Lib.hid (share_sml HX.out (ones_wts k) (by rw [ones_sum]; omega))
        have EN := Lib.hid (fun i hi => even_next (a := x) HX.out.1 m1l i hi); have EE := Lib.hid (fun i hi => even_near (a := x) HX.out.1 m1l i hi)
        have bd := Lib.hid (fun i => share_le (a := x) HX.out.1 (ones_wts k) (by rw [ones_sum]; omega) i)
        have b00 := bd.out 0
        have xx := HX.out
        clear hc
        go_wp2
        generalize hE : (shareL x (onesL k)).getD 0 0 = v0 at g0 b00
        have HE := Lib.hid hE
        clear hE
        go_loopw [9] (fun i wr => ∃ j : Nat, 1 ≤ j ∧ j ≤ k ∧ i = .int .i64 j ∧ ∃ q, wr = w7.drewN q) (fun i _ => k - (intOf i).toNat)
        case atStart => exact ⟨1, Nat.le_refl _, m1l, rfl, 0, rfl⟩
        case round =>
          obtain ⟨j, hj1, hj, rfl, q, rfl⟩ := hrel
          by_cases hlt2 : j < k
          · obtain ⟨i, rfl⟩ : ∃ i, j = i + 1 := ⟨j - 1, by omega⟩
            have g1 : w7.cell? ⟨b, off + (i + 1), none⟩ = some (.int .i64 ((shareL x (onesL k)).getD (i + 1) 0)) := HC.out (i + 1) hlt2
            have g2 : w7.cell? ⟨b, off + i, none⟩ = some (.int .i64 ((shareL x (onesL k)).getD i 0)) := HC.out i (by omega)
            have e1 := EN.out i hlt2
            have e2 := EE.out (i + 1) hlt2
            rw [HE.out] at e2
            have b1 := bd.out (i + 1)
            have b2 := bd.out i
            have i0 : (0 : Int) ≤ (i : Int) := by omega
            have i1 : (i : Int) + 1 < (k : Int) := by omega
            have iw : IntKind.i64.wrap ((i : Int) + 1 - 1) = (i : Int) := by rw [IntWalk.i64_in _ (by omega)]; omega
            generalize (shareL x (onesL k)).getD (i + 1) 0 = u1 at *
            generalize (shareL x (onesL k)).getD i 0 = u2 at *
            have nb1 : decide (u2 < u1) = false := decide_eq_false (by omega)
            have nb2 : ¬ (v0 - u1 > 1) := by omega
            clear e1 e2
            go_wp2
            go_quiet (fail)
            go_wp2
            go_roundw
            case rel => exact ⟨i + 1 + 1, by omega, by omega, by go_num, _, rfl⟩
            case measure => simp [intOf]; omega
          · obtain rfl : j = k := by omega
            have I8 := Lib.hid (I7.out.drewN q)
            have N8 := Lib.hid (N7.out.drewN q)
            go_wp2_with fail
            refine (lsum_any _ j _ _ (by omega) _ I8.out hsm.out).mono ?_
            rw [esum.out]
            rintro e w' ⟨rfl, rfl⟩
            go_wp2
            go_ret
            exact ⟨rfl, N8.out⟩
  · have hz : shareA x ys = [] := if_neg hok
    have HZ := Lib.hid hz
    clear hz hok
    go_wp2_with fail
    refine (ShareSpace_ans x ys B1 m1 d1 _ I1.out (by omega)).mono ?_
    rintro e w2 ⟨A2, n2, c2, rfl, l2, r2, N2a⟩
    have s2 := N2a.le
    have I1 := Lib.hid (I1.out.new N2a)
    have N2 := Lib.hid (N1.out.trans N2a); clear N2a
    rw [HZ.out] at l2 r2
    obtain rfl : 0 = n2 := by simpa using l2
    have R2 := Lib.hid r2; clear l2 r2
    go_wp2_with fail
    refine (SShareSpace_ans x ys B1 m1 d1 _ I1.out (by omega)).mono ?_
    rintro e w3 ⟨A3, n3, c3, rfl, l3, r3, N3a⟩
    have s3 := N3a.le
    have I1 := Lib.hid (I1.out.new N3a)
    have R2 := Lib.hid (R2.out.new N3a)
    have N3 := Lib.hid (N2.out.trans N3a); clear N3a
    rw [HZ.out] at l3 r3
    obtain rfl : 0 = n3 := by simpa using l3
    have R3 := Lib.hid r3; clear l3 r3
    go_wp2_with fail
    refine (equalInts_any _ _ 0 0 _ _ [] [] (by omega) (by omega) _ (R2.out.ints rfl) (R3.out.ints rfl)).mono ?_
    rw [decide_eq_true rfl]
    rintro e w4 ⟨rfl, N4a⟩
    have s4 := N4a.le
    have I1 := Lib.hid (I1.out.new N4a)
    have R2 := Lib.hid (R2.out.new N4a)
    have R3 := Lib.hid (R3.out.new N4a)
    have N4 := Lib.hid (N3.out.trans N4a); clear N4a
    go_wp2_with fail
    refine (SShareSpace_ans x ys B1 m1 d1 _ I1.out (by omega)).mono ?_
    rintro e w5 ⟨A5, n5, c5, rfl, l5, r5, N5a⟩
    have s5 := N5a.le
    have I1 := Lib.hid (I1.out.new N5a)
    have R2 := Lib.hid (R2.out.new N5a)
    have R3 := Lib.hid (R3.out.new N5a)
    have N5 := Lib.hid (N4.out.trans N5a); clear N5a
    rw [HZ.out] at l5 r5
    obtain rfl : 0 = n5 := by simpa using l5
    have R5 := Lib.hid r5; clear l5 r5
    go_wp2_with fail
    refine (equalInts_any _ _ 0 0 _ _ [] [] (by omega) (by omega) _ (R2.out.ints rfl) (R5.out.ints rfl)).mono ?_
    rw [decide_eq_true rfl]
    rintro e w6 ⟨rfl, N6a⟩
    have s6 := N6a.le
    have I1 := Lib.hid (I1.out.new N6a)
    have R2 := Lib.hid (R2.out.new N6a)
    have R3 := Lib.hid (R3.out.new N6a)
    have R5 := Lib.hid (R5.out.new N6a)
    have N6 := Lib.hid (N5.out.trans N6a); clear N6a
    go_wp2
    go_ret
    exact ⟨rfl, N6.out⟩
end Go.Proofs.Ytplgfifbahhpcaa
