/- The law FnChangedRects, walked: for every code. Condition: the code can be read. -/
import Derived.Test.YtckdokijmlpngaaDrawRc
import Derived.Test.YtckdokijmlpngaaChgR
import Derived.Test.YtckdokijmlpngaaDmgP
import Derived.Deep.RegionHeld3
namespace Go.Proofs.Ytckdokijmlpngaa
open Go.RowKit

set_option maxHeartbeats 4000000 in
theorem lawChangedRects (A : Option Addr) (n c : Nat) (hn : n ≤ maxLen) (hnc : n ≤ c) (w : World) (hb : Bytes w A n) :
    Calls Try.prog 7 #[.slice A n c] w fun e w' => e = .returned (.bool true) ∧ New w w' := by
  have HB := Lib.hid hb; have HM := Lib.hid hn
  clear hb
  unfold maxLen at hn
  by_cases hbig : 1048576 < n
  · go_enter Try.func7, Try.ntmps7
    go_wp2
    go_ret
    exact ⟨rfl, by (repeat (first | exact New.refl _ | assumption | refine New.alloc ?_ _ | refine New.drew ?_ | refine New.drewN ?_ _ | refine New.setCell ?_ (by first | omega | (simp; omega) | (simp; done)) _ | refine New.trans ?_ (by assumption)))⟩
  have hm : (n : Int) ≤ 1048576 := by omega
  have hm0 : (0 : Int) ≤ (n : Int) := by omega
  go_enter Try.func7, Try.ntmps7
  go_wp2_with fail
  refine (DrawChangedRects_any A n c HM.out hnc _ HB.out).mono ?_
  rintro e w1 ⟨B1, m1, d1, xs, B2, m2, d2, ys, rfl, I1, I2, dc1, dc2, l1, l2, N1a⟩
  have s1 := N1a.le
  have N1 := Lib.hid ((New.refl w).trans N1a); clear N1a
  replace I1 := Lib.hid I1
  replace I2 := Lib.hid I2
  have y0 : (0 : Int) ≤ (m1 : Int) := by omega
  have y1 : (m1 : Int) ≤ 16 := by omega
  have y2 : (0 : Int) ≤ (m2 : Int) := by omega
  have y3 : (m2 : Int) ≤ 17 := by omega
  by_cases hz : chgA m1 m2 xs ys = []
  · have HZ := Lib.hid hz
    clear hz
    go_wp2_with fail
    refine (ChangedRects_ans B1 B2 m1 d1 m2 d2 xs ys (by omega) (by omega) _ I1.out I2.out).mono ?_
    rintro e w2 ⟨A2, n2, c2, rfl, l2, r2, N2a⟩
    have s2 := N2a.le
    have I1 := Lib.hid (I1.out.new N2a)
    have I2 := Lib.hid (I2.out.new N2a)
    have N2 := Lib.hid (N1.out.trans N2a); clear N2a
    rw [HZ.out] at l2 r2
    obtain rfl : 0 = n2 := by simpa using l2
    have R2 := Lib.hid r2; clear l2 r2
    go_wp2_with fail
    refine (SChangedRects_ans B1 B2 m1 d1 m2 d2 xs ys (by omega) (by omega) _ I1.out I2.out).mono ?_
    rintro e w3 ⟨A3, n3, c3, rfl, l3, r3, N3a⟩
    have s3 := N3a.le
    have I1 := Lib.hid (I1.out.new N3a)
    have I2 := Lib.hid (I2.out.new N3a)
    have R2 := Lib.hid (R2.out.new N3a)
    have N3 := Lib.hid (N2.out.trans N3a); clear N3a
    rw [HZ.out] at l3 r3
    obtain rfl : 0 = n3 := by simpa using l3
    have R3 := Lib.hid r3; clear l3 r3
    go_wp2_with fail
    refine (equalInts_any _ _ 0 0 _ _ [] [] (by omega) (by omega) _ (R2.out.ints rfl) (R3.out.ints rfl)).mono ?_
    (rw [decide_eq_true rfl]; rintro e w4 ⟨rfl, N4a⟩)
    have s4 := N4a.le
    have I1 := Lib.hid (I1.out.new N4a)
    have I2 := Lib.hid (I2.out.new N4a)
    have R2 := Lib.hid (R2.out.new N4a)
    have R3 := Lib.hid (R3.out.new N4a)
    have N4 := Lib.hid (N3.out.trans N4a); clear N4a
    go_wp2_with fail
    refine (SChangedRects_ans B1 B2 m1 d1 m2 d2 xs ys (by omega) (by omega) _ I1.out I2.out).mono ?_
    rintro e w5 ⟨A5, n5, c5, rfl, l5, r5, N5a⟩
    have s5 := N5a.le
    have I1 := Lib.hid (I1.out.new N5a)
    have I2 := Lib.hid (I2.out.new N5a)
    have R2 := Lib.hid (R2.out.new N5a)
    have R3 := Lib.hid (R3.out.new N5a)
    have N5 := Lib.hid (N4.out.trans N5a); clear N5a
    rw [HZ.out] at l5 r5
    obtain rfl : 0 = n5 := by simpa using l5
    have R5 := Lib.hid r5; clear l5 r5
    go_wp2_with fail
    refine (equalInts_any _ _ 0 0 _ _ [] [] (by omega) (by omega) _ (R2.out.ints rfl) (R5.out.ints rfl)).mono ?_
    (rw [decide_eq_true rfl]; rintro e w6 ⟨rfl, N6a⟩)
    have s6 := N6a.le
    have I1 := Lib.hid (I1.out.new N6a)
    have I2 := Lib.hid (I2.out.new N6a)
    have R2 := Lib.hid (R2.out.new N6a)
    have R3 := Lib.hid (R3.out.new N6a)
    have R5 := Lib.hid (R5.out.new N6a)
    have N6 := Lib.hid (N5.out.trans N6a); clear N6a
    go_wp2
    go_ret
    exact ⟨rfl, N6.out⟩
  · have zp : 0 < (chgA m1 m2 xs ys).length := List.length_pos_iff.2 hz
    have zc := chgA_len m1 m2 xs ys
    obtain ⟨nz, LZ⟩ : ∃ nz, Hid ((chgA m1 m2 xs ys).length = nz) := ⟨_, Lib.hid rfl⟩
    have z1 : 1 ≤ nz := by have := LZ.out; omega
    have z8 : nz ≤ 1048576 := by have := LZ.out; omega
    have zi : (1 : Int) ≤ (nz : Int) := by omega
    have zj : (nz : Int) ≤ 1048576 := by omega
    have zb : ((nz : Int) == 0) = false := by simp; omega
    have NE := Lib.hid hz
    clear hz zp zc
    go_wp2_with fail
    refine (ChangedRects_ans B1 B2 m1 d1 m2 d2 xs ys (by omega) (by omega) _ I1.out I2.out).mono ?_
    rintro e w2 ⟨A2, n2, c2, rfl, l2, r2, N2a⟩
    have s2 := N2a.le
    have I1 := Lib.hid (I1.out.new N2a)
    have I2 := Lib.hid (I2.out.new N2a)
    have N2 := Lib.hid (N1.out.trans N2a); clear N2a
    obtain rfl : nz = n2 := by have := LZ.out; omega
    have R2 := Lib.hid r2; clear l2 r2
    go_wp2_with fail
    refine (SChangedRects_ans B1 B2 m1 d1 m2 d2 xs ys (by omega) (by omega) _ I1.out I2.out).mono ?_
    rintro e w3 ⟨A3, n3, c3, rfl, l3, r3, N3a⟩
    have s3 := N3a.le
    have I1 := Lib.hid (I1.out.new N3a)
    have I2 := Lib.hid (I2.out.new N3a)
    have R2 := Lib.hid (R2.out.new N3a)
    have N3 := Lib.hid (N2.out.trans N3a); clear N3a
    obtain rfl : nz = n3 := by have := LZ.out; omega
    have R3 := Lib.hid r3; clear l3 r3
    go_wp2_with fail
    refine (equalInts_any _ _ nz nz _ _ _ _ (by omega) (by omega) _ (R2.out.ints LZ.out) (R3.out.ints LZ.out)).mono ?_
    (rw [decide_eq_true rfl]; rintro e w4 ⟨rfl, N4a⟩)
    have s4 := N4a.le
    have I1 := Lib.hid (I1.out.new N4a)
    have I2 := Lib.hid (I2.out.new N4a)
    have R2 := Lib.hid (R2.out.new N4a)
    have R3 := Lib.hid (R3.out.new N4a)
    have N4 := Lib.hid (N3.out.trans N4a); clear N4a
    have hok : chgOk m1 m2 xs ys = true := by
      have h := NE.out
      cases hk : chgOk m1 m2 xs ys
      · rw [chgA, hk] at h; exact absurd rfl h
      · rfl
    have ZE := Lib.hid (show chgA m1 m2 xs ys = chgTo xs ys m1 by unfold chgA; rw [if_pos hok])
    have CC := Lib.hid (chgA_comm m2 m1 ys xs)
    obtain rfl : m1 = m2 := (chgOk_iff.1 hok).1
    have NN := Lib.hid N4.out
    have IL := Lib.hid (fun j (h : j < m1) => (show inL (chgA m1 m1 xs ys) j = !(same4 xs ys j) by rw [ZE.out]; exact inL_chg h))
    clear hok
    go_wp2
    go_loopw [6] (fun i wr => ∃ j : Nat, j ≤ m1 ∧ i = .int .i64 (j : Int) ∧ Hid (New w4 wr)) (fun i _ => m1 - (intOf i).toNat)
    case atStart => exact ⟨0, Nat.zero_le _, rfl, Lib.hid (New.refl _)⟩
    case round =>
      obtain ⟨j, hj, rfl, HN⟩ := hrel
      have j0 : (0 : Int) ≤ (j : Int) := by omega
      by_cases hlt : j < m1
      · have j1 : (j : Int) < (m1 : Int) := by omega
        have IJ := Lib.hid (IL.out j hlt)
        obtain ⟨b, off, rfl, hb, hc⟩ := I1.out.at_ (by omega)
        obtain ⟨b', off', rfl, hb', hc'⟩ := I2.out.at_ (by omega)
        have KF := Lib.hid (fun V (hV : New w4 V) => (⟨⟨(hV.cells b _ hb).trans (hc (j * 4) (by have := idx_lt (m := 4) (j := 0) hlt (by omega); omega)), (hV.cells b _ hb).trans (hc (j * 4 + 1) (by have := idx_lt (m := 4) (j := 1) hlt (by omega); omega)), (hV.cells b _ hb).trans (hc (j * 4 + 2) (by have := idx_lt (m := 4) (j := 2) hlt (by omega); omega)), (hV.cells b _ hb).trans (hc (j * 4 + 3) (by have := idx_lt (m := 4) (j := 3) hlt (by omega); omega))⟩, (hV.cells b' _ hb').trans (hc' (j * 4) (by have := idx_lt (m := 4) (j := 0) hlt (by omega); omega)), (hV.cells b' _ hb').trans (hc' (j * 4 + 1) (by have := idx_lt (m := 4) (j := 1) hlt (by omega); omega)), (hV.cells b' _ hb').trans (hc' (j * 4 + 2) (by have := idx_lt (m := 4) (j := 2) hlt (by omega); omega)), (hV.cells b' _ hb').trans (hc' (j * 4 + 3) (by have := idx_lt (m := 4) (j := 3) hlt (by omega); omega))⟩ : (V.cell? ⟨b, off + j * 4, none⟩ = some (.int .i64 (xs.getD (j * 4) 0)) ∧ V.cell? ⟨b, off + j * 4 + 1, none⟩ = some (.int .i64 (xs.getD (j * 4 + 1) 0)) ∧ V.cell? ⟨b, off + j * 4 + 2, none⟩ = some (.int .i64 (xs.getD (j * 4 + 2) 0)) ∧ V.cell? ⟨b, off + j * 4 + 3, none⟩ = some (.int .i64 (xs.getD (j * 4 + 3) 0))) ∧ V.cell? ⟨b', off' + j * 4, none⟩ = some (.int .i64 (ys.getD (j * 4) 0)) ∧ V.cell? ⟨b', off' + j * 4 + 1, none⟩ = some (.int .i64 (ys.getD (j * 4 + 1) 0)) ∧ V.cell? ⟨b', off' + j * 4 + 2, none⟩ = some (.int .i64 (ys.getD (j * 4 + 2) 0)) ∧ V.cell? ⟨b', off' + j * 4 + 3, none⟩ = some (.int .i64 (ys.getD (j * 4 + 3) 0))))
        have hs := show same4 xs ys j = decide (xs.getD (j * 4) 0 = ys.getD (j * 4) 0 ∧ xs.getD (j * 4 + 1) 0 = ys.getD (j * 4 + 1) 0 ∧ xs.getD (j * 4 + 2) 0 = ys.getD (j * 4 + 2) 0 ∧ xs.getD (j * 4 + 3) 0 = ys.getD (j * 4 + 3) 0) from rfl
        clear hc hc'
        generalize same4 xs ys j = sm at hs IJ
        generalize xs.getD (j * 4) 0 = y0_ at KF hs
        generalize xs.getD (j * 4 + 1) 0 = y1_ at KF hs
        generalize xs.getD (j * 4 + 2) 0 = y2_ at KF hs
        generalize xs.getD (j * 4 + 3) 0 = y3_ at KF hs
        generalize ys.getD (j * 4) 0 = z0 at KF hs
        generalize ys.getD (j * 4 + 1) 0 = z1 at KF hs
        generalize ys.getD (j * 4 + 2) 0 = z2 at KF hs
        generalize ys.getD (j * 4 + 3) 0 = z3 at KF hs
        have hd1 := fun V => (neq_rect y0_ y1_ y2_ y3_ z0 z1 z2 z3 V)
        rw [← hs] at hd1
        clear hs
        have ND := Lib.hid HN.out.drew
        have KK := KF.out _ ND.out
        go_wp2
        go_region_held3 (fun w' => (w'.cell? ⟨b, off + j * 4, none⟩ = some (.int .i64 y0_) ∧ w'.cell? ⟨b, off + j * 4 + 1, none⟩ = some (.int .i64 y1_) ∧ w'.cell? ⟨b, off + j * 4 + 2, none⟩ = some (.int .i64 y2_) ∧ w'.cell? ⟨b, off + j * 4 + 3, none⟩ = some (.int .i64 y3_)) ∧ w'.cell? ⟨b', off' + j * 4, none⟩ = some (.int .i64 z0) ∧ w'.cell? ⟨b', off' + j * 4 + 1, none⟩ = some (.int .i64 z1) ∧ w'.cell? ⟨b', off' + j * 4 + 2, none⟩ = some (.int .i64 z2) ∧ w'.cell? ⟨b', off' + j * 4 + 3, none⟩ = some (.int .i64 z3))
          (first | exact KK | assumption)
          ((go_at_call 34; refine (isInL_any _ nz _ j _ (by omega) _ ((R2.out.ints LZ.out).new ND.out)).mono ?_; rw [IJ.out]; rintro e wk ⟨rfl, rfl⟩))
        cases sm
        · go_wp2
          go_roundw
          case rel => exact ⟨j + 1, by omega, by go_num, ND⟩
          case measure => simp [intOf]; omega
        · go_wp2
          go_roundw
          case rel => exact ⟨j + 1, by omega, by go_num, ND⟩
          case measure => simp [intOf]; omega
      · obtain rfl : j = m1 := by omega
        have I1 := Lib.hid (I1.out.new HN.out); have I2 := Lib.hid (I2.out.new HN.out); have R2 := Lib.hid (R2.out.new HN.out)
        have NM := Lib.hid (NN.out.trans HN.out)
        go_wp2_with fail
        refine (ChangedRects_ans B2 B1 j d2 j d1 ys xs (by omega) (by omega) _ I2.out I1.out).mono ?_
        rw [CC.out]
        rintro e w7 ⟨A7, n7, c7, rfl, l7, r7, N7⟩
        obtain rfl : nz = n7 := by have := LZ.out; omega
        have I1 := Lib.hid (I1.out.new N7); have R2 := Lib.hid (R2.out.new N7); have R7 := Lib.hid r7
        have N7 := Lib.hid (NM.out.trans N7)
        clear r7 l7
        go_wp2_with fail
        refine (equalInts_any _ _ nz nz _ _ _ _ (by omega) (by omega) _ (R7.out.ints LZ.out) (R2.out.ints LZ.out)).mono ?_
        (rw [decide_eq_true rfl]; rintro e w8 ⟨rfl, N8⟩)
        have I1 := Lib.hid (I1.out.new N8)
        have N8 := Lib.hid (N7.out.trans N8)
        go_wp2_with fail
        refine (ChangedRects_ans B1 B1 j d1 j d1 xs xs (by omega) (by omega) _ I1.out I1.out).mono ?_
        rw [chgA_self]
        rintro e w9 ⟨A9, n9, c9, rfl, l9, r9, N9⟩
        obtain rfl : n9 = 0 := l9.symm
        have N9 := Lib.hid (N8.out.trans N9)
        go_wp2
        go_ret
        exact ⟨rfl, N9.out⟩
    
end Go.Proofs.Ytckdokijmlpngaa
