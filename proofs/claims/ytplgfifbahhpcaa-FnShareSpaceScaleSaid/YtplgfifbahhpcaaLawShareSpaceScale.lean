/- The law FnShareSpaceScale, walked: weights three times as large share alike. Condition: the code can be read. -/
import Derived.Test.YtplgfifbahhpcaaDrawSh
import Derived.Test.YtplgfifbahhpcaaShareZ
import Derived.Test.YtplgfifbahhpcaaShareE
namespace Go.Proofs.Ytplgfifbahhpcaa
open Go.RowKit

set_option maxHeartbeats 4000000 in
theorem lawShareSpaceScale (A : Option Addr) (n c : Nat) (hn : n ≤ maxLen) (hnc : n ≤ c) (w : World) (hb : Bytes w A n) :
    Calls Try.prog 5 #[.slice A n c] w fun e w' => e = .returned (.bool true) ∧ New w w' := by
  have HB := Lib.hid hb; have HM := Lib.hid hn
  clear hb
  unfold maxLen at hn
  by_cases hbig : 1048576 < n
  · go_enter Try.func5, Try.ntmps5
    go_wp2
    go_ret
    exact ⟨rfl, by (repeat (first | exact New.refl _ | assumption | refine New.alloc ?_ _ | refine New.drew ?_ | refine New.drewN ?_ _ | refine New.setCell ?_ (by first | omega | (simp; omega) | (simp; done)) _ | refine New.trans ?_ (by assumption)))⟩
  have hm : (n : Int) ≤ 1048576 := by omega
  have hm0 : (0 : Int) ≤ (n : Int) := by omega
  go_enter Try.func5, Try.ntmps5
  go_wp2_with fail
  refine (DrawShareSpace_any A n c HM.out hnc _ HB.out).mono ?_
  rintro e w1 ⟨x, B1, m1, d1, ys, rfl, xb, I1, l1, S1, N1a⟩
  have s1 := N1a.le
  have N1 := Lib.hid ((New.refl w).trans N1a); clear N1a
  have I1 := Lib.hid I1; have S1 := Lib.hid S1; have LY := Lib.hid I1.out.len
  have y0 : (0 : Int) ≤ (m1 : Int) := by omega
  have y1 : (m1 : Int) ≤ 10 := by omega
  by_cases hok : shOk x ys = true
  · have hz : shareA x ys = shareL x ys := if_pos hok
    have hko := hok
    unfold shOk at hko
    rw [Bool.and_eq_true, decide_eq_true_eq] at hko
    obtain ⟨hx, hrow⟩ := hko
    obtain ⟨⟨q1, q8⟩, hw⟩ := rowB_iff.1 hrow
    have HW : Hid (Wts ys) := Lib.hid hw
    have LZ : Hid ((shareL x ys).length = m1) := Lib.hid ((shareL_len x ys).trans LY.out)
    have zl : (shareL x ys).length ≤ 8 := by have := LZ.out; have := LY.out; omega
    have m1l : 1 ≤ m1 := by have := LY.out; omega
    have m8 : m1 ≤ 8 := by have := LY.out; omega
    have HZ := Lib.hid hz; have HX := Lib.hid hx
    have ml : (1 : Int) ≤ (m1 : Int) := by omega
    have mlb : ((m1 : Int) == 0) = false := by simp; omega
    clear hok hx hrow hw q1 q8 hz
    go_wp2_with fail
    refine (ShareSpace_ans x ys B1 m1 d1 _ I1.out (by omega)).mono ?_
    rintro e w2 ⟨A2, n2, c2, rfl, l2, r2, N2a⟩
    have s2 := N2a.le
    have I1 := Lib.hid (I1.out.new N2a)
    have N2 := Lib.hid (N1.out.trans N2a); clear N2a
    rw [HZ.out] at l2 r2
    obtain rfl : m1 = n2 := by have := LZ.out; omega
    have R2 := Lib.hid r2
    go_wp2_with fail
    refine (SShareSpace_ans x ys B1 m1 d1 _ I1.out (by omega)).mono ?_
    rintro e w3 ⟨A3, n3, c3, rfl, l3, r3, N3a⟩
    have s3 := N3a.le
    have I1 := Lib.hid (I1.out.new N3a)
    have R2 := Lib.hid (R2.out.new N3a)
    have N3 := Lib.hid (N2.out.trans N3a); clear N3a
    rw [HZ.out] at l3 r3
    obtain rfl : m1 = n3 := by have := LZ.out; omega
    have R3 := Lib.hid r3
    clear l2 l3 r2 r3
    go_wp2_with fail
    refine (equalInts_any _ _ m1 m1 _ _ _ _ (by omega) (by omega) _ (R2.out.ints LZ.out) (R3.out.ints LZ.out)).mono ?_
    rw [decide_eq_true rfl]
    rintro e w4 ⟨rfl, N4a⟩
    have s4 := N4a.le
    have I1 := Lib.hid (I1.out.new N4a)
    have R2 := Lib.hid (R2.out.new N4a)
    have R3 := Lib.hid (R3.out.new N4a)
    have N4 := Lib.hid (N3.out.trans N4a); clear N4a
    have NN := Lib.hid N4.out
    go_wp2
    go_loopw [6, 7] (fun v i wr => ∃ k : Nat, k ≤ m1 ∧ i = .int .i64 k ∧ Hid (Own w4.heap.size wr v ((ys.take k).map (3 * ·))) ∧ Hid (∀ z ∈ ys.take k, 3 * z ≤ 200000) ∧ Hid (New w4 wr)) (fun _ i _ => m1 - (intOf i).toNat)
    case atStart => exact ⟨0, Nat.zero_le _, rfl, Lib.hid (Own.empty w4 0 (Nat.le_refl _) rfl), Lib.hid (fun z h => absurd h (by simp)), Lib.hid (by (repeat (first | exact New.refl _ | assumption | refine New.alloc ?_ _ | refine New.drew ?_ | refine New.drewN ?_ _ | refine New.setCell ?_ (by first | omega | (simp; omega) | (simp; done)) _ | refine New.trans ?_ (by assumption))))⟩
    case round =>
      obtain ⟨k, hk, rfl, HO, HB3, HNr⟩ := hrel
      by_cases hlt : k < m1
      · obtain ⟨b, off, rfl, hb, hc⟩ := I1.out.at_ (by omega)
        have g1 : wr.cell? ⟨b, off + k, none⟩ = some (.int .i64 (ys.getD k 0)) := (HNr.out.cells b _ hb).trans (hc k hlt)
        have wb := HW.out.at_ k
        have hkl : k < ys.length := by rw [LY.out]; exact hlt
        have lt : (List.map (3 * ·) (ys.take k)).length = k := by simp; omega
        have st : ys.take (k + 1) = ys.take k ++ [ys.getD k 0] := take_snoc_i hkl
        have ST := Lib.hid st; have LT := Lib.hid lt
        have sz := HNr.out.le
        clear hc st lt hkl
        have k0 : (0 : Int) ≤ (k : Int) := by omega
        have k1 : (k : Int) < (m1 : Int) := by omega
        generalize ys.getD k 0 = u at *
        by_cases hgt : 3 * u > 200000
        · go_wp2
          go_ret
          exact ⟨rfl, NN.out.trans HNr.out⟩
        · have hle : 3 * u ≤ 200000 := by omega
          clear hgt
          go_wp2_with (at_builtin; refine wp_app rfl _ _ rfl w4.heap.size _ _ rfl (HO.out.alloc _) (some ⟨wr.heap.size, 0, none⟩) 1 1 [3 * u] rfl (Ints.one wr _ _) (by rw [LT.out]; omega) (by simp; omega) ?_; intro v6 w6 O6 G6; (have N6 := Lib.hid (new_own (HNr.out.alloc _) G6 (HO.out.alloc _) (Nat.le_refl _))); (have O6 := Lib.hid O6); clear G6)
          go_wp2
          go_roundw
          case rel => exact ⟨k + 1, by omega, by go_num, Lib.hid (by rw [ST.out, List.map_append]; exact O6.out), Lib.hid (fun z hz => by
            rw [ST.out] at hz
            rcases List.mem_append.1 hz with h1 | h1
            · exact HB3.out z h1
            · rw [List.mem_singleton.1 h1]; exact hle), N6⟩
          case measure => simp [intOf]; omega
      · obtain rfl : k = m1 := by omega
        have e : ys.take k = ys := List.take_of_length_le (by rw [LY.out]; omega)
        have HO2 := HO.out
        have HB2 := HB3.out
        rw [e] at HO2 HB2
        have l3 : (ys.map (3 * ·)).length = k := by rw [List.length_map]; exact LY.out
        obtain ⟨B5, c5, rfl, _, Z5⟩ := HO2.res
        have ok3 : shOk x (ys.map (3 * ·)) = true := by
          unfold shOk
          rw [Bool.and_eq_true, decide_eq_true_eq]
          refine ⟨HX.out, rowB_iff.2 ⟨by rw [l3]; omega, fun z hz => ?_⟩⟩
          obtain ⟨y, hy, rfl⟩ := List.mem_map.1 hz
          have h1 := HW.out y hy
          have h2 := HB2 y hy
          omega
        have HZ3 : Hid (shareA x (ys.map (3 * ·)) = shareL x ys) := Lib.hid (by unfold shareA; rw [if_pos ok3]; exact share_scale HX.out.1 HW.out)
        have L3 := Lib.hid l3
        have I5 := Lib.hid (Z5.ints l3)
        rw [l3]
        have RG := Lib.hid (R2.out.new HNr.out)
        clear HO2 HB2 ok3 l3 e Z5
        go_wp2_with fail
        refine (ShareSpace_ans x (ys.map (3 * ·)) B5 k c5 _ I5.out (by omega)).mono ?_
        rw [HZ3.out]
        rintro e w7 ⟨A7, n7, c7, rfl, l7, r7, N7⟩
        obtain rfl : k = n7 := by have := LZ.out; omega
        have RG := Lib.hid (RG.out.new N7)
        have R7 := Lib.hid r7; have N7 := Lib.hid (NN.out.trans (HNr.out.trans N7))
        clear r7 l7
        go_wp2_with fail
        refine (equalInts_any _ _ k k _ _ _ _ (by omega) (by omega) _ (R7.out.ints LZ.out) (RG.out.ints LZ.out)).mono ?_
        rw [decide_eq_true rfl]
        rintro e w8 ⟨rfl, N8⟩
        have N8 := Lib.hid (N7.out.trans N8)
        go_wp2
        go_ret
        exact ⟨rfl, N8.out⟩
  · have hz : shareA x ys = [] := if_neg hok
    have HZ := Lib.hid hz
    clear hz hok
    go_wp2_with fail
    refine (ShareSpace_ans x ys B1 m1 d1 _ I1.out (by omega)).mono ?_
    rintro e w2 ⟨A2, n2, c2, rfl, l2, r2, N2a⟩
    have s2 := N2a.le
    have I1 := Lib.hid (I1.out.new N2a)
    have N2 := Lib.hid (N1.out.trans N2a); clear N2a
    rw [HZ.out] at l2 r2
    obtain rfl : 0 = n2 := by simpa using l2
    have R2 := Lib.hid r2; clear l2 r2
    go_wp2_with fail
    refine (SShareSpace_ans x ys B1 m1 d1 _ I1.out (by omega)).mono ?_
    rintro e w3 ⟨A3, n3, c3, rfl, l3, r3, N3a⟩
    have s3 := N3a.le
    have I1 := Lib.hid (I1.out.new N3a)
    have R2 := Lib.hid (R2.out.new N3a)
    have N3 := Lib.hid (N2.out.trans N3a); clear N3a
    rw [HZ.out] at l3 r3
    obtain rfl : 0 = n3 := by simpa using l3
    have R3 := Lib.hid r3; clear l3 r3
    go_wp2_with fail
    refine (equalInts_any _ _ 0 0 _ _ [] [] (by omega) (by omega) _ (R2.out.ints rfl) (R3.out.ints rfl)).mono ?_
    rw [decide_eq_true rfl]
    rintro e w4 ⟨rfl, N4a⟩
    have s4 := N4a.le
    have I1 := Lib.hid (I1.out.new N4a)
    have R2 := Lib.hid (R2.out.new N4a)
    have R3 := Lib.hid (R3.out.new N4a)
    have N4 := Lib.hid (N3.out.trans N4a); clear N4a
    go_wp2_with fail
    refine (SShareSpace_ans x ys B1 m1 d1 _ I1.out (by omega)).mono ?_
    rintro e w5 ⟨A5, n5, c5, rfl, l5, r5, N5a⟩
    have s5 := N5a.le
    have I1 := Lib.hid (I1.out.new N5a)
    have R2 := Lib.hid (R2.out.new N5a)
    have R3 := Lib.hid (R3.out.new N5a)
    have N5 := Lib.hid (N4.out.trans N5a); clear N5a
    rw [HZ.out] at l5 r5
    obtain rfl : 0 = n5 := by simpa using l5
    have R5 := Lib.hid r5; clear l5 r5
    go_wp2_with fail
    refine (equalInts_any _ _ 0 0 _ _ [] [] (by omega) (by omega) _ (R2.out.ints rfl) (R5.out.ints rfl)).mono ?_
    rw [decide_eq_true rfl]
    rintro e w6 ⟨rfl, N6a⟩
    have s6 := N6a.le
    have I1 := Lib.hid (I1.out.new N6a)
    have R2 := Lib.hid (R2.out.new N6a)
    have R3 := Lib.hid (R3.out.new N6a)
    have R5 := Lib.hid (R5.out.new N6a)
    have N6 := Lib.hid (N5.out.trans N6a); clear N6a
    go_wp2
    go_ret
    exact ⟨rfl, N6.out⟩
end Go.Proofs.Ytplgfifbahhpcaa
