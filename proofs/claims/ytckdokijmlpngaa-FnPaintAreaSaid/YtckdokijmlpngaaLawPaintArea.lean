/- The law FnPaintArea, walked: for every code. Condition: the code can be read. -/
import Derived.Test.YtckdokijmlpngaaDrawRc
import Derived.Test.YtckdokijmlpngaaPaiI
import Derived.Test.YtckdokijmlpngaaPaiS
import Derived.Test.YtckdokijmlpngaaPaiP
import Derived.Test.YtckdokijmlpngaaPaiT
import Derived.Test.YtckdokijmlpngaaRectJ
import Derived.Deep.RegionHeld3
import Derived.Deep.QuietTactic
import Derived.BigQuiet
namespace Go.Proofs.Ytckdokijmlpngaa
open Go.RowKit

set_option maxRecDepth 100000 in
set_option maxHeartbeats 4000000 in
theorem lawPaintArea (A : Option Addr) (n c : Nat) (hn : n ≤ maxLen) (hnc : n ≤ c) (w : World) (hb : Bytes w A n) :
    Calls Try.prog 10 #[.slice A n c] w fun e w' => e = .returned (.bool true) ∧ New w w' := by
  have HB := Lib.hid hb; have HM := Lib.hid hn
  clear hb
  unfold maxLen at hn
  by_cases hbig : 1048576 < n
  · go_enter Try.func10, Try.ntmps10
    go_wp2
    go_ret
    exact ⟨rfl, by (repeat (first | exact New.refl _ | assumption | refine New.alloc ?_ _ | refine New.drew ?_ | refine New.drewN ?_ _ | refine New.setCell ?_ (by first | omega | (simp; omega) | (simp; done)) _ | refine New.trans ?_ (by assumption)))⟩
  have hm : (n : Int) ≤ 1048576 := by omega
  have hm0 : (0 : Int) ≤ (n : Int) := by omega
  go_enter Try.func10, Try.ntmps10
  go_wp2_with fail
  refine (DrawPaintArea_any A n c HM.out hnc _ HB.out).mono ?_
  rintro e w1 ⟨B1, m1, d1, xs, rfl, I1, dc1, l1, N1a⟩
  have s1 := N1a.le
  have N1 := Lib.hid ((New.refl w).trans N1a); clear N1a
  replace I1 := Lib.hid I1
  have y0 : (0 : Int) ≤ (m1 : Int) := by omega
  have y1 : (m1 : Int) ≤ 7 := by omega
  obtain ⟨z, HZ⟩ : ∃ z, Hid (paA m1 xs = z) := ⟨_, Lib.hid rfl⟩
  go_wp2_with fail
  refine (PaintArea_any B1 m1 d1 xs (by omega) dc1 _ I1.out).mono ?_
  rw [HZ.out]
  rintro e w2 ⟨rfl, N2a⟩
  have s2 := N2a.le
  have I1 := Lib.hid (I1.out.new N2a)
  have N2 := Lib.hid (N1.out.trans N2a); clear N2a
  go_wp2_with fail
  refine (SPaintArea_any B1 m1 d1 xs (by omega) _ I1.out).mono ?_
  rw [HZ.out]
  rintro e w3 ⟨rfl, N3a⟩
  have s3 := N3a.le
  have I1 := Lib.hid (I1.out.new N3a)
  have N3 := Lib.hid (N2.out.trans N3a); clear N3a
  cases hpa : paB m1 xs
  · have hz : z = -1 := HZ.out.symm.trans (paA_no hpa)
    subst hz
    go_wp2_with fail
    refine (SPaintArea_any B1 m1 d1 xs (by omega) _ I1.out).mono ?_
    rw [HZ.out]
    rintro e w4 ⟨rfl, N4a⟩
    have s4 := N4a.le
    have I1 := Lib.hid (I1.out.new N4a)
    have N4 := Lib.hid (N3.out.trans N4a); clear N4a
    go_wp2
    go_ret
    exact ⟨rfl, N4.out⟩
  obtain ⟨n6, ok1, ok2⟩ := paB_iff.1 hpa
  have hz : arTo xs m1 = z := (paA_yes hpa).symm.trans HZ.out
  have zb := arTo_bd ok1 ok2
  rw [hz] at zb
  have HA := Lib.hid hz; have OK1 := Lib.hid ok1; have OK2 := Lib.hid ok2
  have znn : ¬ z < 0 := by omega
  have zd : decide (z < 0) = false := decide_eq_false znn
  have HPA := Lib.hid hpa
  clear hpa hz ok1 ok2
  have GE := Lib.hid (fun j (hj : j < m1) => arTo_ge OK1.out OK2.out hj)
  rw [HA.out] at GE
  have LE := Lib.hid (arTo_le OK1.out OK2.out)
  rw [HA.out] at LE
  have SB := Lib.hid (fun j (hj : j ≤ m1) => sumA_bd (n := j) (fun i hi => OK1.out i (by omega)) (fun i hi => OK2.out i (by omega)))
  have AB := Lib.hid (fun j (hj : j < m1) => paArea_bd (OK1.out j hj) (OK2.out j hj))
  have NN := Lib.hid N3.out
  have zu : z ≤ 10000 := by omega
  go_wp2
  go_loopw [5, 6] (fun av iv wr => ∃ j : Nat, j ≤ m1 ∧ iv = .int .i64 (j : Int) ∧ av = .int .i64 (sumA xs j) ∧ Hid (New w3 wr)) (fun _ iv _ => m1 - (intOf iv).toNat)
  case atStart => exact ⟨0, Nat.zero_le _, rfl, rfl, Lib.hid (New.refl _)⟩
  case round =>
    obtain ⟨j, hj, rfl, rfl, HN⟩ := hrel
    have j0 : (0 : Int) ≤ (j : Int) := by omega
    by_cases hlt : j < m1
    · have j1 : (j : Int) < (m1 : Int) := by omega
      have ss : sumA xs (j + 1) = sumA xs j + xs.getD (j * 4 + 2) 0 * xs.getD (j * 4 + 3) 0 := rfl
      have sb := SB.out j (by omega)
      have ab := AB.out j hlt
      have ge := GE.out j hlt
      obtain ⟨b, off, rfl, hb, hc⟩ := I1.out.at_ (by omega)
      have KX := Lib.hid (fun V (hV : New w3 V) => (⟨(hV.cells b _ hb).trans (hc (j * 4 + 2) (by omega)), (hV.cells b _ hb).trans (hc (j * 4 + 3) (by omega))⟩ : V.cell? ⟨b, off + j * 4 + 2, none⟩ = some (.int .i64 (xs.getD (j * 4 + 2) 0)) ∧ V.cell? ⟨b, off + j * 4 + 3, none⟩ = some (.int .i64 (xs.getD (j * 4 + 3) 0))))
      clear hc
      generalize xs.getD (j * 4 + 2) 0 = y2 at KX ss ab ge
      generalize xs.getD (j * 4 + 3) 0 = y3 at KX ss ab ge
      generalize hP : y2 * y3 = P at ss ab ge
      generalize hS : sumA xs j = Sj at ss sb ⊢
      have SE := Lib.hid ss
      clear ss
      obtain ⟨g2, g3⟩ := KX.out _ HN.out
      go_wp2
      go_quiet (fail)
      have NQ := Lib.hid (HN.out.drewN nq)
      generalize wr.drewN nq = W5 at NQ ⊢
      clear g2 g3
      obtain ⟨g2, g3⟩ := KX.out _ NQ.out
      go_wp2
      go_quiet (fail)
      have NR := Lib.hid (NQ.out.drewN nq)
      generalize W5.drewN nq = W6 at NR ⊢
      go_wp2
      go_roundw
      case rel => exact ⟨j + 1, by omega, by go_num, by rw [SE.out], NR⟩
      case measure => simp [intOf]; omega
    · obtain rfl : j = m1 := by omega
      have NM := Lib.hid (NN.out.trans HN.out)
      have le := LE.out
      generalize sumA xs j = Sj at le ⊢
      by_cases h0 : j = 0
      · subst h0
        go_wp2
        go_quiet (fail)
        go_wp2
        go_ret
        exact ⟨rfl, NM.out.drewN nq⟩
      by_cases h6 : j = 6
      · subst h6
        go_wp2
        go_quiet (fail)
        go_wp2
        go_ret
        exact ⟨rfl, NM.out.drewN nq⟩
      have jp : 0 < j := by omega
      have j5 : j ≤ 5 := by
        have : (j : Int) ≤ 6 := n6
        omega
      have jb : ((j : Int) == 0) = false := by rw [beq_eq_false_iff_ne]; omega
      have jb6 : ((j : Int) == 6) = false := by rw [beq_eq_false_iff_ne]; omega
      have jc : (0 : Int) < (j : Int) := by omega
      have hl := I1.out.len
      have again := paA_again HPA.out hl jp j5
      rw [HZ.out] at again
      have ST := Lib.hid (fun V (hV : New w3 V) => I1.out.new hV)
      obtain ⟨b, off, rfl, hb, hc⟩ := I1.out.at_ jp
      have KX := Lib.hid (fun V (hV : New w3 V) => (⟨(hV.cells b _ hb).trans (hc 0 (by omega)), (hV.cells b _ hb).trans (hc 1 (by omega)), (hV.cells b _ hb).trans (hc 2 (by omega)), (hV.cells b _ hb).trans (hc 3 (by omega))⟩ : V.cell? ⟨b, off, none⟩ = some (.int .i64 (xs.getD 0 0)) ∧ V.cell? ⟨b, off + 1, none⟩ = some (.int .i64 (xs.getD 1 0)) ∧ V.cell? ⟨b, off + 2, none⟩ = some (.int .i64 (xs.getD 2 0)) ∧ V.cell? ⟨b, off + 3, none⟩ = some (.int .i64 (xs.getD 3 0))))
      rw [show rg xs 0 = (xs.getD 0 0, xs.getD 1 0, xs.getD 2 0, xs.getD 3 0) from rfl] at again
      clear hc
      generalize hx0 : xs.getD 0 0 = x0 at KX again
      generalize hx1 : xs.getD 1 0 = x1 at KX again
      generalize hx2 : xs.getD 2 0 = x2 at KX again
      generalize hx3 : xs.getD 3 0 = x3 at KX again
      clear hx0 hx1 hx2 hx3
      have PG := Lib.hid (fun (A : Option Addr) (c : Nat) V (h : Sts 4 V A (j + 1) (xs ++ [x0, x1, x2, x3])) (hc : j + 1 ≤ c) => (show Calls Try.prog 28 #[.slice A (j + 1) c] V fun e V' => e = .returned (.int .i64 z) ∧ New V V' from by
        have h := PaintArea_any A (j + 1) c (xs ++ [x0, x1, x2, x3]) (by omega) hc V h
        rw [show xs ++ [x0, x1, x2, x3] = xs ++ l4 (x0, x1, x2, x3) from rfl, again] at h
        exact h))
      have ND := Lib.hid HN.out.drew
      have KF := Lib.hid (fun V (hV : New wr.drew V) => KX.out V (ND.out.trans hV))
      have EW := Lib.hid (OwnRect.empty (lo := wr.drew.heap.size) wr.drew (Nat.le_refl _))
      have EC : Hid (OwnRect wr.drew.heap.size ((wr.drew.alloc (.cells #[.int .i64 x0, .int .i64 x1, .int .i64 x2, .int .i64 x3] 34)).alloc (.cells #[] 34)) (.slice (some ⟨wr.heap.size + 1, 0, none⟩) 0 0) 0 []) := Lib.hid (by have h := OwnRect.empty (lo := wr.drew.heap.size) (wr.drew.alloc (.cells #[.int .i64 x0, .int .i64 x1, .int .i64 x2, .int .i64 x3] 34)) (by simp); simpa using h)
      have K0 := KF.out wr.drew (New.refl _)
      have K1 := KF.out (wr.drew.alloc (.cells #[] 34)) ((New.refl _).alloc _)
      have K2 := KF.out ((wr.drew.alloc (.cells #[] 34)).alloc (.cells #[.int .i64 x0, .int .i64 x1, .int .i64 x2, .int .i64 x3] 34)) (((New.refl _).alloc _).alloc _)
      have K3 := KF.out (wr.drew.alloc (.cells #[.int .i64 x0, .int .i64 x1, .int .i64 x2, .int .i64 x3] 34)) ((New.refl _).alloc _)
      have K4 := KF.out ((wr.drew.alloc (.cells #[.int .i64 x0, .int .i64 x1, .int .i64 x2, .int .i64 x3] 34)).alloc (.cells #[] 34)) (((New.refl _).alloc _).alloc _)
      clear again hl
      go_wp2
      go_region_held3 (fun w' => w'.cell? ⟨b, off, none⟩ = some (.int .i64 x0) ∧ w'.cell? ⟨b, off + 1, none⟩ = some (.int .i64 x1) ∧ w'.cell? ⟨b, off + 2, none⟩ = some (.int .i64 x2) ∧ w'.cell? ⟨b, off + 3, none⟩ = some (.int .i64 x3))
        (first | exact K0 | exact K1 | exact K2 | exact K3 | exact K4 | exact K6 | exact K8 | exact K9 | exact K10 | assumption)
        (first
          | (refine step_appRectG (by first | rfl | simp [Region.wanted, yielded, go_sem]) (.tmp 71) (.tmp 72) rfl wr.drew.heap.size _ 0 [] rfl EW.out _ j d1 xs rfl (ST.out _ (ND.out.alloc _)) (by omega) ((New.refl wr.drew).alloc _).le ?_; intro v6 w6 O6 G6 E6; (have M6 := Lib.hid (new_ownRect ((New.refl wr.drew).alloc _) G6 EW.out (Nat.le_refl _))); (have K6 := KF.out w6 M6.out); (have K8 := KF.out (w6.alloc (.cells #[.int .i64 x0, .int .i64 x1, .int .i64 x2, .int .i64 x3] 34)) (M6.out.alloc _)); (have O6 := Lib.hid O6); (rw [Nat.zero_add, List.nil_append] at O6); clear G6 E6)
          | (refine step_appRectG (by first | rfl | simp [Region.wanted, yielded, go_sem]) (.tmp 71) (.tmp 72) rfl wr.drew.heap.size (.slice (some ⟨wr.heap.size, 0, none⟩) 0 0) 0 [] rfl (EW.out.alloc (.cells #[.int .i64 x0, .int .i64 x1, .int .i64 x2, .int .i64 x3] 34)) _ j d1 xs rfl (ST.out _ ((ND.out.alloc _).alloc _)) (by omega) (((New.refl wr.drew).alloc _).alloc _).le ?_; intro v6 w6 O6 G6 E6; (have M6 := Lib.hid (new_ownRect (((New.refl wr.drew).alloc _).alloc _) G6 (EW.out.alloc (.cells #[.int .i64 x0, .int .i64 x1, .int .i64 x2, .int .i64 x3] 34)) (Nat.le_refl _))); (have RB : Hid (Row w6 (wr.heap.size + 1) [x0, x1, x2, x3]) := Lib.hid (by have h := Row.oneRect (wr.drew.alloc (.cells #[] 34)) x0 x1 x2 x3 34; rw [show (wr.drew.alloc (.cells #[] 34)).heap.size = wr.heap.size + 1 by simp] at h; exact h.keepR G6 (by simp [Value.ownBlock]))); (have K6 := KF.out w6 M6.out); (have K8 := KF.out (w6.alloc (.cells #[.int .i64 x0, .int .i64 x1, .int .i64 x2, .int .i64 x3] 34)) (M6.out.alloc _)); (have O6 := Lib.hid O6); (rw [Nat.zero_add, List.nil_append] at O6); clear G6 E6)
          | (refine step_appRectG (by first | rfl | simp [Region.wanted, yielded, go_sem]) (.tmp 71) (.tmp 72) rfl wr.drew.heap.size (.slice (some ⟨wr.heap.size + 1, 0, none⟩) 0 0) 0 [] rfl EC.out _ j d1 xs rfl (ST.out _ ((ND.out.alloc _).alloc _)) (by omega) (((New.refl wr.drew).alloc _).alloc _).le ?_; intro v6 w6 O6 G6 E6; (have M6 := Lib.hid (new_ownRect (((New.refl wr.drew).alloc _).alloc _) G6 EC.out (Nat.le_refl _))); (have RB : Hid (Row w6 wr.heap.size [x0, x1, x2, x3]) := Lib.hid (((Row.oneRect wr.drew x0 x1 x2 x3 34).new ((New.refl _).alloc _)).keepR G6 (by simp [Value.ownBlock]))); (have K6 := KF.out w6 M6.out); (have K8 := KF.out (w6.alloc (.cells #[.int .i64 x0, .int .i64 x1, .int .i64 x2, .int .i64 x3] 34)) (M6.out.alloc _)); (have O6 := Lib.hid O6); (rw [Nat.zero_add, List.nil_append] at O6); clear G6 E6)
          | (refine step_appRectG (by first | rfl | simp [Region.wanted, yielded, go_sem]) (.tmp 73) (.tmp 77) rfl wr.drew.heap.size v6 j _ rfl (O6.out.alloc (.cells #[.int .i64 x0, .int .i64 x1, .int .i64 x2, .int .i64 x3] 34)) _ 1 1 [x0, x1, x2, x3] rfl ((Row.oneRect w6 x0 x1 x2 x3 34).stsR rfl) (by omega) (Nat.le_trans M6.out.le (by simp)) ?_; intro v7 w7 O7 G7 E7; (have M7 := Lib.hid (new_ownRect (M6.out.alloc _) G7 (O6.out.alloc _) (Nat.le_refl _))); (have K9 := KF.out w7 M7.out); (have Z7 := O7); (obtain ⟨A9, c9, rfl, hc9, Z9⟩ := Z7.res); (have S9 := Lib.hid (Sts.of_res (m := 3) Z9 Z7.2)); clear Z7 Z9 G7 O7 E7)
          | (refine step_appRectG (by first | rfl | simp [Region.wanted, yielded, go_sem]) (.tmp 73) (.tmp 77) rfl wr.drew.heap.size v6 j _ rfl O6.out _ 1 1 [x0, x1, x2, x3] rfl (RB.out.stsR rfl) (by omega) M6.out.le ?_; intro v7 w7 O7 G7 E7; (have M7 := Lib.hid (new_ownRect M6.out G7 O6.out (Nat.le_refl _))); (have K9 := KF.out w7 M7.out); (have Z7 := O7); (obtain ⟨A9, c9, rfl, hc9, Z9⟩ := Z7.res); (have S9 := Lib.hid (Sts.of_res (m := 3) Z9 Z7.2)); clear Z7 Z9 G7 O7 E7)
          | (go_at_call 28; refine (PG.out A9 c9 _ S9.out hc9).mono ?_; rintro e w9 ⟨rfl, N9⟩; (have M9 := Lib.hid (M7.out.trans N9)); (have K10 := KF.out w9 M9.out); clear N9))
      all_goals
        go_wp2
        go_ret
        exact ⟨rfl, NM.out.drew.trans M9.out⟩
end Go.Proofs.Ytckdokijmlpngaa
