/- The law FnShareSpaceNone, walked: a weight of 0 gets nothing, and more weight never gets less. Condition: the code can be read. -/
import Derived.Test.YtplgfifbahhpcaaDrawSh
import Derived.Test.YtplgfifbahhpcaaShareZ
import Derived.Test.YtplgfifbahhpcaaShareK2
namespace Go.Proofs.Ytplgfifbahhpcaa
open Go.RowKit

set_option maxHeartbeats 4000000 in
theorem lawShareSpaceNone (A : Option Addr) (n c : Nat) (hn : n ≤ maxLen) (hnc : n ≤ c) (w : World) (hb : Bytes w A n) :
    Calls Try.prog 4 #[.slice A n c] w fun e w' => e = .returned (.bool true) ∧ New w w' := by
  have HB := Lib.hid hb; have HM := Lib.hid hn
  clear hb
  unfold maxLen at hn
  by_cases hbig : 1048576 < n
  · go_enter Try.func4, Try.ntmps4
    go_wp2
    go_ret
    exact ⟨rfl, by (repeat (first | exact New.refl _ | assumption | refine New.alloc ?_ _ | refine New.drew ?_ | refine New.drewN ?_ _ | refine New.setCell ?_ (by first | omega | (simp; omega) | (simp; done)) _ | refine New.trans ?_ (by assumption)))⟩
  have hm : (n : Int) ≤ 1048576 := by omega
  have hm0 : (0 : Int) ≤ (n : Int) := by omega
  go_enter Try.func4, Try.ntmps4
  go_wp2_with fail
  refine (DrawShareSpace_any A n c HM.out hnc _ HB.out).mono ?_
  rintro e w1 ⟨x, B1, m1, d1, ys, rfl, xb, I1, l1, S1, N1a⟩
  have s1 := N1a.le
  have N1 := Lib.hid ((New.refl w).trans N1a); clear N1a
  have I1 := Lib.hid I1; have S1 := Lib.hid S1; have LY := Lib.hid I1.out.len
  have y0 : (0 : Int) ≤ (m1 : Int) := by omega
  have y1 : (m1 : Int) ≤ 10 := by omega
  by_cases hok : shOk x ys = true
  · have hz : shareA x ys = shareL x ys := if_pos hok
    have hko := hok
    unfold shOk at hko
    rw [Bool.and_eq_true, decide_eq_true_eq] at hko
    obtain ⟨hx, hrow⟩ := hko
    obtain ⟨⟨q1, q8⟩, hw⟩ := rowB_iff.1 hrow
    have HW : Hid (Wts ys) := Lib.hid hw
    have LZ : Hid ((shareL x ys).length = m1) := Lib.hid ((shareL_len x ys).trans LY.out)
    have zl : (shareL x ys).length ≤ 8 := by have := LZ.out; have := LY.out; omega
    have m1l : 1 ≤ m1 := by have := LY.out; omega
    have m8 : m1 ≤ 8 := by have := LY.out; omega
    have HZ := Lib.hid hz; have HX := Lib.hid hx
    have ml : (1 : Int) ≤ (m1 : Int) := by omega
    have mlb : ((m1 : Int) == 0) = false := by simp; omega
    clear hok hx hrow hw q1 q8 hz
    go_wp2_with fail
    refine (ShareSpace_ans x ys B1 m1 d1 _ I1.out (by omega)).mono ?_
    rintro e w2 ⟨A2, n2, c2, rfl, l2, r2, N2a⟩
    have s2 := N2a.le
    have I1 := Lib.hid (I1.out.new N2a)
    have N2 := Lib.hid (N1.out.trans N2a); clear N2a
    rw [HZ.out] at l2 r2
    obtain rfl : m1 = n2 := by have := LZ.out; omega
    have R2 := Lib.hid r2
    go_wp2_with fail
    refine (SShareSpace_ans x ys B1 m1 d1 _ I1.out (by omega)).mono ?_
    rintro e w3 ⟨A3, n3, c3, rfl, l3, r3, N3a⟩
    have s3 := N3a.le
    have I1 := Lib.hid (I1.out.new N3a)
    have R2 := Lib.hid (R2.out.new N3a)
    have N3 := Lib.hid (N2.out.trans N3a); clear N3a
    rw [HZ.out] at l3 r3
    obtain rfl : m1 = n3 := by have := LZ.out; omega
    have R3 := Lib.hid r3
    clear l2 l3 r2 r3
    go_wp2_with fail
    refine (equalInts_any _ _ m1 m1 _ _ _ _ (by omega) (by omega) _ (R2.out.ints LZ.out) (R3.out.ints LZ.out)).mono ?_
    rw [decide_eq_true rfl]
    rintro e w4 ⟨rfl, N4a⟩
    have s4 := N4a.le
    have I1 := Lib.hid (I1.out.new N4a)
    have R2 := Lib.hid (R2.out.new N4a)
    have R3 := Lib.hid (R3.out.new N4a)
    have N4 := Lib.hid (N3.out.trans N4a); clear N4a
    have NN := Lib.hid N4.out
    have facts : Hid (∀ i k, i < m1 → k < m1 → (ys.getD i 0 = 0 → (shareL x ys).getD i 0 = 0) ∧ (ys.getD k 0 < ys.getD i 0 → (shareL x ys).getD k 0 ≤ (shareL x ys).getD i 0)) := Lib.hid (fun i k hi hk => by
      by_cases hs : ys.sum = 0
      · have e : ∀ j, (shareL x ys).getD j 0 = 0 := fun j => by
          unfold shareL
          rw [if_pos hs]
          by_cases hj : j < ys.length
          · simp [hj]
          · simp [Nat.le_of_not_lt hj]
        exact ⟨fun _ => e i, fun _ => by rw [e i, e k]; omega⟩
      · exact ⟨share_none HX.out.1 HW.out hs i (by rw [LY.out]; exact hi), share_mono HX.out.1 HW.out hs i k (by rw [LY.out]; exact hi) (by rw [LY.out]; exact hk)⟩)
    go_wp2
    go_loopw [6] (fun i wr => ∃ k : Nat, k ≤ m1 ∧ i = .int .i64 k ∧ ∃ q, wr = w4.drewN q) (fun i _ => m1 - (intOf i).toNat)
    case atStart => exact ⟨0, Nat.zero_le _, rfl, 0, rfl⟩
    case round =>
      obtain ⟨k, hk, rfl, q, rfl⟩ := hrel
      by_cases hlt : k < m1
      · obtain ⟨b, off, rfl, hb, hc⟩ := I1.out.at_ (by omega)
        obtain ⟨b', off', rfl, hb', hc'⟩ := (R2.out.ints LZ.out).at_ (by omega)
        have g1 : w4.cell? ⟨b, off + k, none⟩ = some (.int .i64 (ys.getD k 0)) := hc k hlt
        have g2 : w4.cell? ⟨b', off' + k, none⟩ = some (.int .i64 ((shareL x ys).getD k 0)) := hc' k hlt
        have fz := (facts.out k k hlt hlt).1
        have FK := Lib.hid (fun j hj => (facts.out k j hlt hj).2)
        have HC := Lib.hid hc; have HC' := Lib.hid hc'
        clear hc hc'
        have k0 : (0 : Int) ≤ (k : Int) := by omega
        have k1 : (k : Int) < (m1 : Int) := by omega
        generalize ys.getD k 0 = u at *
        generalize (shareL x ys).getD k 0 = v at *
        have nb : ¬ (u = 0 ∧ v ≠ 0) := fun h => h.2 (fz h.1)
        clear fz
        have t1 : (u == 0) = false ∨ ((u == 0) = true ∧ (v != 0) = false) := by
          by_cases hu : u = 0
          · exact .inr ⟨by simpa using hu, by simp; exact Classical.byContradiction fun hv => nb ⟨hu, hv⟩⟩
          · exact .inl (by simpa using hu)
        clear nb
        have WALK : ∀ P : Prop, P → P := fun _ h => h
        clear WALK
        rcases t1 with t1 | ⟨t1, t2⟩
        all_goals
          go_wp2
          go_loopw [7] (fun i wr => ∃ j : Nat, j ≤ m1 ∧ i = .int .i64 j ∧ ∃ q, wr = w4.drewN q) (fun i _ => m1 - (intOf i).toNat)
          case atStart => exact ⟨0, Nat.zero_le _, rfl, q, rfl⟩
          case round =>
            obtain ⟨j, hj, rfl, q2, rfl⟩ := hrel
            by_cases hlt2 : j < m1
            · have g3 : w4.cell? ⟨b, off + j, none⟩ = some (.int .i64 (ys.getD j 0)) := HC.out j hlt2
              have g4 : w4.cell? ⟨b', off' + j, none⟩ = some (.int .i64 ((shareL x ys).getD j 0)) := HC'.out j hlt2
              have fm := FK.out j hlt2
              have j0 : (0 : Int) ≤ (j : Int) := by omega
              have j1 : (j : Int) < (m1 : Int) := by omega
              generalize ys.getD j 0 = u' at *
              generalize (shareL x ys).getD j 0 = v' at *
              by_cases hg : u' < u
              · have nv : ¬ v < v' := by have := fm hg; omega
                clear fm
                go_wp2
                go_quiet (fail)
                go_wp2
                go_roundw
                case rel => exact ⟨j + 1, by omega, by go_num, _, rfl⟩
                case measure => simp [intOf]; omega
              · have hd : decide (u' < u) = false := decide_eq_false hg
                clear fm hg
                go_wp2
                go_quiet (fail)
                go_wp2
                go_roundw
                case rel => exact ⟨j + 1, by omega, by go_num, _, rfl⟩
                case measure => simp [intOf]; omega
            · obtain rfl : j = m1 := by omega
              go_wp2
              go_roundw
              case rel => exact ⟨k + 1, by omega, by go_num, _, rfl⟩
              case measure => simp [intOf]; omega
      · obtain rfl : k = m1 := by omega
        go_wp2
        go_ret
        exact ⟨rfl, NN.out.drewN q⟩
  · have hz : shareA x ys = [] := if_neg hok
    have HZ := Lib.hid hz
    clear hz hok
    go_wp2_with fail
    refine (ShareSpace_ans x ys B1 m1 d1 _ I1.out (by omega)).mono ?_
    rintro e w2 ⟨A2, n2, c2, rfl, l2, r2, N2a⟩
    have s2 := N2a.le
    have I1 := Lib.hid (I1.out.new N2a)
    have N2 := Lib.hid (N1.out.trans N2a); clear N2a
    rw [HZ.out] at l2 r2
    obtain rfl : 0 = n2 := by simpa using l2
    have R2 := Lib.hid r2; clear l2 r2
    go_wp2_with fail
    refine (SShareSpace_ans x ys B1 m1 d1 _ I1.out (by omega)).mono ?_
    rintro e w3 ⟨A3, n3, c3, rfl, l3, r3, N3a⟩
    have s3 := N3a.le
    have I1 := Lib.hid (I1.out.new N3a)
    have R2 := Lib.hid (R2.out.new N3a)
    have N3 := Lib.hid (N2.out.trans N3a); clear N3a
    rw [HZ.out] at l3 r3
    obtain rfl : 0 = n3 := by simpa using l3
    have R3 := Lib.hid r3; clear l3 r3
    go_wp2_with fail
    refine (equalInts_any _ _ 0 0 _ _ [] [] (by omega) (by omega) _ (R2.out.ints rfl) (R3.out.ints rfl)).mono ?_
    rw [decide_eq_true rfl]
    rintro e w4 ⟨rfl, N4a⟩
    have s4 := N4a.le
    have I1 := Lib.hid (I1.out.new N4a)
    have R2 := Lib.hid (R2.out.new N4a)
    have R3 := Lib.hid (R3.out.new N4a)
    have N4 := Lib.hid (N3.out.trans N4a); clear N4a
    go_wp2_with fail
    refine (SShareSpace_ans x ys B1 m1 d1 _ I1.out (by omega)).mono ?_
    rintro e w5 ⟨A5, n5, c5, rfl, l5, r5, N5a⟩
    have s5 := N5a.le
    have I1 := Lib.hid (I1.out.new N5a)
    have R2 := Lib.hid (R2.out.new N5a)
    have R3 := Lib.hid (R3.out.new N5a)
    have N5 := Lib.hid (N4.out.trans N5a); clear N5a
    rw [HZ.out] at l5 r5
    obtain rfl : 0 = n5 := by simpa using l5
    have R5 := Lib.hid r5; clear l5 r5
    go_wp2_with fail
    refine (equalInts_any _ _ 0 0 _ _ [] [] (by omega) (by omega) _ (R2.out.ints rfl) (R5.out.ints rfl)).mono ?_
    rw [decide_eq_true rfl]
    rintro e w6 ⟨rfl, N6a⟩
    have s6 := N6a.le
    have I1 := Lib.hid (I1.out.new N6a)
    have R2 := Lib.hid (R2.out.new N6a)
    have R3 := Lib.hid (R3.out.new N6a)
    have R5 := Lib.hid (R5.out.new N6a)
    have N6 := Lib.hid (N5.out.trans N6a); clear N6a
    go_wp2
    go_ret
    exact ⟨rfl, N6.out⟩
end Go.Proofs.Ytplgfifbahhpcaa
