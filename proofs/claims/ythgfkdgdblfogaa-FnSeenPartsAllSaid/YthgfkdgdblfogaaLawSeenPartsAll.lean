/- The law FnSeenPartsAll, walked: a view of everything sees just the parts that are not empty. Condition: the code can be read. -/
import Derived.Test.YthgfkdgdblfogaaDrawSn
import Derived.Test.YthgfkdgdblfogaaSeenM
import Derived.Test.YthgfkdgdblfogaaIsIn
import Derived.IntWalk
namespace Go.Proofs.Ythgfkdgdblfogaa
open Go.RowKit

set_option maxHeartbeats 4000000 in
theorem lawSeenPartsAll (A : Option Addr) (n c : Nat) (hn : n ≤ maxLen) (hnc : n ≤ c) (w : World) (hb : Bytes w A n) :
    Calls Try.prog 6 #[.slice A n c] w fun e w' => e = .returned (.bool true) ∧ New w w' := by
  have HB := Lib.hid hb; have HM := Lib.hid hn
  clear hb
  unfold maxLen at hn
  by_cases hbig : 1048576 < n
  · go_enter Try.func6, Try.ntmps6
    go_wp2
    go_ret
    exact ⟨rfl, by (repeat (first | exact New.refl _ | assumption | refine New.alloc ?_ _ | refine New.drew ?_ | refine New.drewN ?_ _ | refine New.setCell ?_ (by first | omega | (simp; omega) | (simp; done)) _ | refine New.trans ?_ (by assumption)))⟩
  have hm : (n : Int) ≤ 1048576 := by omega
  have hm0 : (0 : Int) ≤ (n : Int) := by omega
  go_enter Try.func6, Try.ntmps6
  go_wp2_with fail
  refine (DrawSeenParts_any A n c HM.out hnc _ HB.out).mono ?_
  rintro e w1 ⟨B1, m1, d1, ys, vw, at0, rfl, I1, l1, S1, vb, ab, N1a⟩
  have s1 := N1a.le
  have N1 := Lib.hid ((New.refl w).trans N1a); clear N1a
  replace I1 := Lib.hid I1
  have LY := Lib.hid I1.out.len
  have y0 : (0 : Int) ≤ (m1 : Int) := by omega
  have y1 : (m1 : Int) ≤ 10 := by omega
  replace S1 := Lib.hid S1
  obtain ⟨vb0, vb1⟩ := vb
  obtain ⟨ab0, ab1⟩ := ab
  by_cases hz : snA ys vw at0 = []
  · have HZ := Lib.hid hz
    clear hz
    go_wp2_with fail
    refine (SeenParts_ans B1 m1 d1 ys vw at0 (by omega) _ I1.out).mono ?_
    rintro e w2 ⟨A2, n2, c2, rfl, l2, r2, N2a⟩
    have s2 := N2a.le
    have I1 := Lib.hid (I1.out.new N2a)
    have N2 := Lib.hid (N1.out.trans N2a); clear N2a
    rw [HZ.out] at l2 r2
    obtain rfl : 0 = n2 := by simpa using l2
    have R2 := Lib.hid r2; clear l2 r2
    go_wp2_with fail
    refine (SSeenParts_ans B1 m1 d1 ys vw at0 (by omega) _ I1.out).mono ?_
    rintro e w3 ⟨A3, n3, c3, rfl, l3, r3, N3a⟩
    have s3 := N3a.le
    have I1 := Lib.hid (I1.out.new N3a)
    have R2 := Lib.hid (R2.out.new N3a)
    have N3 := Lib.hid (N2.out.trans N3a); clear N3a
    rw [HZ.out] at l3 r3
    obtain rfl : 0 = n3 := by simpa using l3
    have R3 := Lib.hid r3; clear l3 r3
    go_wp2_with fail
    refine (equalInts_any _ _ 0 0 _ _ [] [] (by omega) (by omega) _ (R2.out.ints rfl) (R3.out.ints rfl)).mono ?_
    (rw [decide_eq_true rfl]; rintro e w4 ⟨rfl, N4a⟩)
    have s4 := N4a.le
    have I1 := Lib.hid (I1.out.new N4a)
    have R2 := Lib.hid (R2.out.new N4a)
    have R3 := Lib.hid (R3.out.new N4a)
    have N4 := Lib.hid (N3.out.trans N4a); clear N4a
    go_wp2_with fail
    refine (SSeenParts_ans B1 m1 d1 ys vw at0 (by omega) _ I1.out).mono ?_
    rintro e w5 ⟨A5, n5, c5, rfl, l5, r5, N5a⟩
    have s5 := N5a.le
    have I1 := Lib.hid (I1.out.new N5a)
    have R2 := Lib.hid (R2.out.new N5a)
    have R3 := Lib.hid (R3.out.new N5a)
    have N5 := Lib.hid (N4.out.trans N5a); clear N5a
    rw [HZ.out] at l5 r5
    obtain rfl : 0 = n5 := by simpa using l5
    have R5 := Lib.hid r5; clear l5 r5
    go_wp2_with fail
    refine (equalInts_any _ _ 0 0 _ _ [] [] (by omega) (by omega) _ (R2.out.ints rfl) (R5.out.ints rfl)).mono ?_
    (rw [decide_eq_true rfl]; rintro e w6 ⟨rfl, N6a⟩)
    have s6 := N6a.le
    have I1 := Lib.hid (I1.out.new N6a)
    have R2 := Lib.hid (R2.out.new N6a)
    have R3 := Lib.hid (R3.out.new N6a)
    have R5 := Lib.hid (R5.out.new N6a)
    have N6 := Lib.hid (N5.out.trans N6a); clear N6a
    go_wp2
    go_ret
    exact ⟨rfl, N6.out⟩
  · have zp : 0 < (snA ys vw at0).length := List.length_pos_iff.2 hz
    have zc := snA_len (xs := ys) (view := vw) (at_ := at0)
    obtain ⟨nz, LZ⟩ : ∃ nz, Hid ((snA ys vw at0).length = nz) := ⟨_, Lib.hid rfl⟩
    have z1 : 1 ≤ nz := by have := LZ.out; omega
    have z8 : nz ≤ 1048576 := by have := LZ.out; omega
    have zi : (1 : Int) ≤ (nz : Int) := by omega
    have zj : (nz : Int) ≤ 1048576 := by omega
    have zb : ((nz : Int) == 0) = false := by simp; omega
    have NE := Lib.hid hz
    clear hz zp zc
    go_wp2_with fail
    refine (SeenParts_ans B1 m1 d1 ys vw at0 (by omega) _ I1.out).mono ?_
    rintro e w2 ⟨A2, n2, c2, rfl, l2, r2, N2a⟩
    have s2 := N2a.le
    have I1 := Lib.hid (I1.out.new N2a)
    have N2 := Lib.hid (N1.out.trans N2a); clear N2a
    obtain rfl : nz = n2 := by have := LZ.out; omega
    have R2 := Lib.hid r2; clear l2 r2
    go_wp2_with fail
    refine (SSeenParts_ans B1 m1 d1 ys vw at0 (by omega) _ I1.out).mono ?_
    rintro e w3 ⟨A3, n3, c3, rfl, l3, r3, N3a⟩
    have s3 := N3a.le
    have I1 := Lib.hid (I1.out.new N3a)
    have R2 := Lib.hid (R2.out.new N3a)
    have N3 := Lib.hid (N2.out.trans N3a); clear N3a
    obtain rfl : nz = n3 := by have := LZ.out; omega
    have R3 := Lib.hid r3; clear l3 r3
    go_wp2_with fail
    refine (equalInts_any _ _ nz nz _ _ _ _ (by omega) (by omega) _ (R2.out.ints LZ.out) (R3.out.ints LZ.out)).mono ?_
    (rw [decide_eq_true rfl]; rintro e w4 ⟨rfl, N4a⟩)
    have s4 := N4a.le
    have I1 := Lib.hid (I1.out.new N4a)
    have R2 := Lib.hid (R2.out.new N4a)
    have R3 := Lib.hid (R3.out.new N4a)
    have N4 := Lib.hid (N3.out.trans N4a); clear N4a
    have hok : snOk ys vw at0 = true := by
      have h := NE.out
      unfold snA at h
      by_cases hk : snOk ys vw at0 = true
      · exact hk
      · rw [if_neg hk] at h; exact absurd rfl h
    obtain ⟨⟨n8, hall⟩, hvw, hat⟩ := snOk_iff.1 hok
    have he : snA ys vw at0 = snTo ys vw at0 m1 := by unfold snA; rw [if_pos hok]; rw [LY.out]
    have HE := Lib.hid he; have HOK := Lib.hid hok; have HAL := Lib.hid hall
    obtain ⟨hvw0, hvw1⟩ := hvw
    obtain ⟨hat0, hat1⟩ := hat
    have TB := Lib.hid (fun k (hk : k ≤ m1) => take_bd hall (k := k) (by rw [LY.out]; exact hk))
    have hs0 := TB.out m1 (Nat.le_refl _)
    rw [List.take_of_length_le (by rw [LY.out]; exact Nat.le_refl _)] at hs0
    have hm18 : (m1 : Int) ≤ 8 := by rw [LY.out] at n8; exact n8
    have hoA : snOk ys ys.sum 0 = true := snOk_iff.2 ⟨⟨n8, hall⟩, by omega, by omega⟩
    have heA : snA ys ys.sum 0 = snTo ys ys.sum 0 m1 := by unfold snA; rw [if_pos hoA]; rw [LY.out]
    have HEA := Lib.hid heA
    have HT := Lib.hid (fun j (hj : j < m1) => (show 0 ≤ (ys.take j).sum ∧ 0 ≤ ys.getD j 0 ∧ (ys.take j).sum + ys.getD j 0 ≤ ys.sum by
      have h1 := TB.out j (Nat.le_of_lt hj)
      have hnn : ∀ i, 0 ≤ ys.getD i 0 := fun i => by
        rcases Nat.lt_or_ge i ys.length with h | h
        · exact (allB_iff.1 HAL.out (ys.getD i 0) (by rw [show ys.getD i 0 = ys[i] by simp [h]]; exact List.getElem_mem _)).1
        · rw [show ys.getD i 0 = 0 by rw [List.getD_eq_getElem?_getD, List.getElem?_eq_none h]; rfl]; exact Int.le_refl _
      have h2 := sum_snoc (zs := ys) (k := j) (by rw [LY.out]; exact hj)
      refine ⟨h1.1, hnn j, ?_⟩
      rw [← h2]
      have up : ∀ m, ∀ k, k + m = ys.length → (ys.take k).sum ≤ ys.sum := by
        intro m
        induction m with
        | zero => intro k hk; rw [List.take_of_length_le (by omega)]; exact Int.le_refl _
        | succ m ih =>
          intro k hk
          have h3 := ih (k + 1) (by omega)
          rw [sum_snoc (by omega)] at h3
          have := hnn k
          omega
      exact up (ys.length - (j + 1)) (j + 1) (by rw [LY.out]; omega)))
    have TY := Lib.hid (fun k => snTo_yes (xs := ys) (view := ys.sum) (at_ := 0) (k := k)); have TN := Lib.hid (fun k => snTo_no (xs := ys) (view := ys.sum) (at_ := 0) (k := k))
    have SMY := Lib.hid (show Sml ys from S1.out)
    clear hok hall he n8 heA hoA hs0
    go_wp2_with fail
    refine (lsum_any _ m1 d1 ys (by omega) _ I1.out SMY.out).mono ?_
    rintro e w' ⟨rfl, rfl⟩
    go_wp2_with fail
    refine (SeenParts_ans B1 m1 d1 ys ys.sum 0 (by omega) _ I1.out).mono ?_
    rintro e w5 ⟨A5, n5, c5, rfl, l5, r5, N5a⟩
    have s5 := N5a.le
    have I1 := Lib.hid (I1.out.new N5a)
    have R2 := Lib.hid (R2.out.new N5a)
    have R3 := Lib.hid (R3.out.new N5a)
    have N5 := Lib.hid (N4.out.trans N5a); clear N5a
    have LA := Lib.hid (show (snTo ys ys.sum 0 m1).length = n5 by rw [← HEA.out]; exact l5)
    have na8 : n5 ≤ 100 := by have h1 := snTo_len (xs := ys) (view := ys.sum) (at_ := 0) (k := m1); have := LA.out; omega
    obtain ⟨b, off, rfl, hb, hc⟩ := I1.out.at_ (by have := LZ.out; have h1 := snTo_len (xs := ys) (view := vw) (at_ := at0) (k := m1); rw [HE.out] at this; omega)
    have HC := Lib.hid hc
    have NN := Lib.hid N5.out
    clear hc l5 r5
    go_wp2
    go_loopw [8, 9] (fun f x wr => ∃ j : Nat, j ≤ m1 ∧ x = .int .i64 j ∧ f = .int .i64 ((snTo ys ys.sum 0 j).length : Nat) ∧ Hid (New w5 wr)) (fun _ x _ => m1 - (intOf x).toNat)
    case atStart => exact ⟨0, Nat.zero_le _, rfl, rfl, Lib.hid (by (repeat (first | exact New.refl _ | assumption | refine New.alloc ?_ _ | refine New.drew ?_ | refine New.drewN ?_ _ | refine New.setCell ?_ (by first | omega | (simp; omega) | (simp; done)) _ | refine New.trans ?_ (by assumption))))⟩
    case round =>
      obtain ⟨j, hj, rfl, rfl, HW⟩ := hrel
      have j0 : (0 : Int) ≤ (j : Int) := by omega
      by_cases hlt : j < m1
      · have j1 : (j : Int) < (m1 : Int) := by omega
        have g0 := (HW.out.cells b _ hb).trans (HC.out j hlt)
        obtain ⟨t0, t1, t2⟩ := HT.out j hlt
        have ty := TY.out j; have tn := TN.out j
        have hsn : snB ys ys.sum 0 j = decide (mx (ys.take j).sum 0 < mn ((ys.take j).sum + ys.getD j 0) (0 + ys.sum)) := rfl
        rw [hsn] at ty tn
        have tl := snTo_len (xs := ys) (view := ys.sum) (at_ := 0) (k := j)
        clear hsn
        generalize (ys.take j).sum = S at *
        generalize ys.getD j 0 = z at *
        by_cases c1 : 0 < z
        · have e := Lib.hid (show ((snTo ys ys.sum 0 (j + 1)).length : Nat) = (snTo ys ys.sum 0 j).length + 1 by rw [ty (decide_eq_true (by unfold mx mn; omega))]; simp)
          clear ty tn
          generalize (snTo ys ys.sum 0 j).length = L at *
          go_wp2
          go_roundw
          case rel => exact ⟨j + 1, by omega, by go_num, by rw [e.out]; go_num, HW⟩
          case measure => simp [intOf]; omega
        · have e := Lib.hid (show ((snTo ys ys.sum 0 (j + 1)).length : Nat) = (snTo ys ys.sum 0 j).length by rw [tn (decide_eq_false (by unfold mx mn; omega))])
          clear ty tn
          generalize (snTo ys ys.sum 0 j).length = L at *
          go_wp2
          go_roundw
          case rel => exact ⟨j + 1, by omega, by go_num, by rw [e.out], HW⟩
          case measure => simp [intOf]; omega
      · obtain rfl : j = m1 := by omega
        have e := LA.out
        rw [e]
        go_wp2
        go_ret
        exact ⟨ret_bool (by simp), NN.out.trans HW.out⟩
end Go.Proofs.Ythgfkdgdblfogaa
