/- The law FnDamageOfTight, walked: for every code. Condition: the code can be read. -/
import Derived.Test.YtckdokijmlpngaaDrawRc
import Derived.Test.YtckdokijmlpngaaDmgR
import Derived.Test.YtckdokijmlpngaaDmgP
import Derived.Test.YtckdokijmlpngaaPlain
import Derived.Deep.RegionHeld3
namespace Go.Proofs.Ytckdokijmlpngaa
open Go.RowKit

set_option maxRecDepth 100000 in
set_option maxHeartbeats 4000000 in
theorem lawDamageOfTight (A : Option Addr) (n c : Nat) (hn : n ≤ maxLen) (hnc : n ≤ c) (w : World) (hb : Bytes w A n) :
    Calls Try.prog 9 #[.slice A n c] w fun e w' => e = .returned (.bool true) ∧ New w w' := by
  have HB := Lib.hid hb; have HM := Lib.hid hn
  clear hb
  unfold maxLen at hn
  by_cases hbig : 1048576 < n
  · go_enter Try.func9, Try.ntmps9
    go_wp2
    go_ret
    exact ⟨rfl, by (repeat (first | exact New.refl _ | assumption | refine New.alloc ?_ _ | refine New.drew ?_ | refine New.drewN ?_ _ | refine New.setCell ?_ (by first | omega | (simp; omega) | (simp; done)) _ | refine New.trans ?_ (by assumption)))⟩
  have hm : (n : Int) ≤ 1048576 := by omega
  have hm0 : (0 : Int) ≤ (n : Int) := by omega
  go_enter Try.func9, Try.ntmps9
  go_wp2_with fail
  refine (DrawDamageOf_any A n c HM.out hnc _ HB.out).mono ?_
  rintro e w1 ⟨B1, m1, d1, xs, B2, m2, d2, ys, rfl, I1, I2, dc1, dc2, l1, l2, N1a⟩
  have s1 := N1a.le
  have N1 := Lib.hid ((New.refl w).trans N1a); clear N1a
  replace I1 := Lib.hid I1
  replace I2 := Lib.hid I2
  have y0 : (0 : Int) ≤ (m1 : Int) := by omega
  have y1 : (m1 : Int) ≤ 16 := by omega
  have y2 : (0 : Int) ≤ (m2 : Int) := by omega
  have y3 : (m2 : Int) ≤ 17 := by omega
  obtain ⟨⟨q0, q1, q2, q3⟩, HQ⟩ : ∃ Q : R4, Hid (dmQ m1 m2 xs ys = Q) := ⟨_, Lib.hid rfl⟩
  obtain ⟨T, HT⟩ : ∃ T, Hid (dmB m1 m2 xs ys = T) := ⟨_, Lib.hid rfl⟩
  go_wp2_with fail
  refine (DamageOf_any B1 B2 m1 d1 m2 d2 xs ys (by omega) (by omega) _ I1.out I2.out).mono ?_
  rw [HQ.out, HT.out]
  rintro e w2 ⟨rfl, N2a⟩
  have s2 := N2a.le
  have I1 := Lib.hid (I1.out.new N2a)
  have I2 := Lib.hid (I2.out.new N2a)
  have N2 := Lib.hid (N1.out.trans N2a); clear N2a
  have RZ2 := Lib.hid (Row.oneRect w2 q0 q1 q2 q3 34)
  have I1 := Lib.hid (I1.out.new ((New.refl w2).alloc (.cells #[.int .i64 q0, .int .i64 q1, .int .i64 q2, .int .i64 q3] 34)))
  have I2 := Lib.hid (I2.out.new ((New.refl w2).alloc (.cells #[.int .i64 q0, .int .i64 q1, .int .i64 q2, .int .i64 q3] 34)))
  have M2 := Lib.hid (N2.out.alloc (.cells #[.int .i64 q0, .int .i64 q1, .int .i64 q2, .int .i64 q3] 34))
  have t2 : w2.heap.size < (w2.alloc (.cells #[.int .i64 q0, .int .i64 q1, .int .i64 q2, .int .i64 q3] 34)).heap.size := RZ2.out.lt
  go_wp2_with fail
  refine (SDamageOf_any B1 B2 m1 d1 m2 d2 xs ys (by omega) (by omega) _ I1.out I2.out).mono ?_
  rw [HQ.out, HT.out]
  rintro e w3 ⟨rfl, N3a⟩
  have s3 := N3a.le
  have I1 := Lib.hid (I1.out.new N3a)
  have I2 := Lib.hid (I2.out.new N3a)
  have RZ2 := Lib.hid (RZ2.out.new N3a)
  have N3 := Lib.hid (M2.out.trans N3a); clear N3a
  have RZ3 := Lib.hid (Row.oneRect w3 q0 q1 q2 q3 34)
  have I1 := Lib.hid (I1.out.new ((New.refl w3).alloc (.cells #[.int .i64 q0, .int .i64 q1, .int .i64 q2, .int .i64 q3] 34)))
  have I2 := Lib.hid (I2.out.new ((New.refl w3).alloc (.cells #[.int .i64 q0, .int .i64 q1, .int .i64 q2, .int .i64 q3] 34)))
  have RZ2 := Lib.hid (RZ2.out.new ((New.refl w3).alloc (.cells #[.int .i64 q0, .int .i64 q1, .int .i64 q2, .int .i64 q3] 34)))
  have M3 := Lib.hid (N3.out.alloc (.cells #[.int .i64 q0, .int .i64 q1, .int .i64 q2, .int .i64 q3] 34))
  have t3 : w3.heap.size < (w3.alloc (.cells #[.int .i64 q0, .int .i64 q1, .int .i64 q2, .int .i64 q3] 34)).heap.size := RZ3.out.lt
  obtain ⟨a2, e2, p2, q2_⟩ := Row.allRect RZ2.out
  obtain ⟨a3, e3, p3, q3_⟩ := Row.allRect RZ3.out
  cases T
  · go_wp2
    go_ret
    exact ⟨rfl, M3.out⟩
  · obtain ⟨hp, hv, hq⟩ := dmB_yes HT.out
    have hin := fun j (hj : j < (chgA m1 m2 xs ys).length) => dm_in (xs := xs) (ys := ys) (js := chgA m1 m2 xs ys) hj
    have hdl := fun (h : 0 < (chgA m1 m2 xs ys).length) => (by obtain ⟨q, hq⟩ : ∃ q, (chgA m1 m2 xs ys).length = q + 1 := ⟨_, (Nat.succ_pred_eq_of_pos h).symm⟩; rw [hq]; exact ⟨dm_left, dm_right⟩ : (∃ j, j < (chgA m1 m2 xs ys).length ∧ ((rg xs ((chgA m1 m2 xs ys).getD j 0).toNat).1 = (dmTo xs ys (chgA m1 m2 xs ys) (chgA m1 m2 xs ys).length).1 ∨ (rg ys ((chgA m1 m2 xs ys).getD j 0).toNat).1 = (dmTo xs ys (chgA m1 m2 xs ys) (chgA m1 m2 xs ys).length).1)) ∧ ∃ j, j < (chgA m1 m2 xs ys).length ∧ ((rg xs ((chgA m1 m2 xs ys).getD j 0).toNat).1 + (rg xs ((chgA m1 m2 xs ys).getD j 0).toNat).2.2.1 = (dmTo xs ys (chgA m1 m2 xs ys) (chgA m1 m2 xs ys).length).1 + (dmTo xs ys (chgA m1 m2 xs ys) (chgA m1 m2 xs ys).length).2.2.1 ∨ (rg ys ((chgA m1 m2 xs ys).getD j 0).toNat).1 + (rg ys ((chgA m1 m2 xs ys).getD j 0).toNat).2.2.1 = (dmTo xs ys (chgA m1 m2 xs ys) (chgA m1 m2 xs ys).length).1 + (dmTo xs ys (chgA m1 m2 xs ys) (chgA m1 m2 xs ys).length).2.2.1))
    have HDL := Lib.hid (hdl hp)
    clear hdl
    have hR : dmTo xs ys (chgA m1 m2 xs ys) (chgA m1 m2 xs ys).length = (q0, q1, q2, q3) := (show dmR m1 m2 xs ys = _ from hq.symm.trans HQ.out)
    rw [show dmR m1 m2 xs ys = (q0, q1, q2, q3) from hR] at hv
    have HV := Lib.hid (show vR q0 q1 q2 q3 = true from hv)
    rw [hR] at hin HDL
    have HIN := Lib.hid hin
    have AT := Lib.hid (fun j (h : j < (chgA m1 m2 xs ys).length) => chgA_at h)
    have DC := Lib.hid (dm_comm m1 m2 xs ys)
    have hz16 := chgA_len m1 m2 xs ys
    clear hin hR hq hv
    go_wp2_with fail
    refine (ChangedRects_ans B1 B2 m1 d1 m2 d2 xs ys (by omega) (by omega) _ I1.out I2.out).mono ?_
    rintro e w4 ⟨A4, n4, c4, rfl, l4, r4, N4a⟩
    have s4 := N4a.le
    have I1 := Lib.hid (I1.out.new N4a)
    have I2 := Lib.hid (I2.out.new N4a)
    have RZ2 := Lib.hid (RZ2.out.new N4a)
    have RZ3 := Lib.hid (RZ3.out.new N4a)
    have N4 := Lib.hid (M3.out.trans N4a); clear N4a
    generalize chgA m1 m2 xs ys = js at *
    subst l4
    have HJ := Lib.hid (r4.ints rfl)
    clear r4
    have jp : (0 : Int) < (js.length : Int) := by omega
    have j16 : (js.length : Int) ≤ 16 := by omega
    have NN := Lib.hid N4.out
    have qv := vR_iff.1 HV.out
    have LA := Lib.hid (show anyTo js.length (edL xs ys js q0) = true from anyTo_iff.2 (by
      obtain ⟨t, ht, h⟩ := HDL.out.1
      exact ⟨t, ht, by unfold edL; rw [Bool.or_eq_true, beq_iff_eq, beq_iff_eq]; exact h⟩))
    have RA := Lib.hid (show anyTo js.length (edR xs ys js (q0 + q2)) = true from anyTo_iff.2 (by
      obtain ⟨t, ht, h⟩ := HDL.out.2
      exact ⟨t, ht, by unfold edR; rw [Bool.or_eq_true, beq_iff_eq, beq_iff_eq]; exact h⟩))
    clear HDL
    go_wp2
    go_loopw [10, 11, 12] (fun lv rv i wr => ∃ j : Nat, j ≤ js.length ∧ i = .int .i64 (j : Int) ∧ lv = .bool (anyTo j (edL xs ys js q0)) ∧ rv = .bool (anyTo j (edR xs ys js (q0 + q2))) ∧ Hid (New w4 wr)) (fun _ _ i _ => js.length - (intOf i).toNat)
    case atStart => exact ⟨0, Nat.zero_le _, rfl, by rw [anyTo_no (fun i h => absurd h (by omega))], by rw [anyTo_no (fun i h => absurd h (by omega))], Lib.hid (New.refl _)⟩
    case round =>
      obtain ⟨j, hj, rfl, rfl, rfl, HN⟩ := hrel
      have j0 : (0 : Int) ≤ (j : Int) := by omega
      by_cases hlt : j < js.length
      · have j1 : (j : Int) < (js.length : Int) := by omega
        obtain ⟨i, ei, hin_, him_, va, vb, -⟩ := AT.out j hlt
        have ls := anyTo_step (n := j) (edL xs ys js q0)
        have rs := anyTo_step (n := j) (edR xs ys js (q0 + q2))
        rw [show edL xs ys js q0 j = ((xs.getD (i * 4) 0 == q0) || (ys.getD (i * 4) 0 == q0)) by unfold edL; rw [ei]; rfl] at ls
        rw [show edR xs ys js (q0 + q2) j = ((xs.getD (i * 4) 0 + xs.getD (i * 4 + 2) 0 == q0 + q2) || (ys.getD (i * 4) 0 + ys.getD (i * 4 + 2) 0 == q0 + q2)) by unfold edR; rw [ei]; rfl] at rs
        have ii0 : (0 : Int) ≤ (i : Int) := by omega
        have ii1 : (i : Int) < (m1 : Int) := by omega
        have ii2 : (i : Int) < (m2 : Int) := by omega
        obtain ⟨b, off, rfl, hb, hc⟩ := I1.out.at_ (by omega)
        obtain ⟨b', off', rfl, hb', hc'⟩ := I2.out.at_ (by omega)
        obtain ⟨bj, offj, rfl, hbj, hcj⟩ := HJ.out.at_ (by omega)
        have cj := hcj j hlt
        rw [ei] at cj
        have KF := Lib.hid (fun V (hV : New w4 V) => (⟨(hV.cells bj _ hbj).trans cj, ⟨(hV.cells b _ hb).trans (hc (i * 4) (by have := idx_lt (m := 4) (j := 0) hin_ (by omega); omega)), (hV.cells b _ hb).trans (hc (i * 4 + 1) (by have := idx_lt (m := 4) (j := 1) hin_ (by omega); omega)), (hV.cells b _ hb).trans (hc (i * 4 + 2) (by have := idx_lt (m := 4) (j := 2) hin_ (by omega); omega)), (hV.cells b _ hb).trans (hc (i * 4 + 3) (by have := idx_lt (m := 4) (j := 3) hin_ (by omega); omega))⟩, ⟨(hV.cells b' _ hb').trans (hc' (i * 4) (by have := idx_lt (m := 4) (j := 0) him_ (by omega); omega)), (hV.cells b' _ hb').trans (hc' (i * 4 + 1) (by have := idx_lt (m := 4) (j := 1) him_ (by omega); omega)), (hV.cells b' _ hb').trans (hc' (i * 4 + 2) (by have := idx_lt (m := 4) (j := 2) him_ (by omega); omega)), (hV.cells b' _ hb').trans (hc' (i * 4 + 3) (by have := idx_lt (m := 4) (j := 3) him_ (by omega); omega))⟩, Row.allRect (RZ2.out.new hV)⟩ : V.cell? ⟨bj, offj + j, none⟩ = some (.int .i64 (i : Int)) ∧ (V.cell? ⟨b, off + i * 4, none⟩ = some (.int .i64 (xs.getD (i * 4) 0)) ∧ V.cell? ⟨b, off + i * 4 + 1, none⟩ = some (.int .i64 (xs.getD (i * 4 + 1) 0)) ∧ V.cell? ⟨b, off + i * 4 + 2, none⟩ = some (.int .i64 (xs.getD (i * 4 + 2) 0)) ∧ V.cell? ⟨b, off + i * 4 + 3, none⟩ = some (.int .i64 (xs.getD (i * 4 + 3) 0))) ∧ (V.cell? ⟨b', off' + i * 4, none⟩ = some (.int .i64 (ys.getD (i * 4) 0)) ∧ V.cell? ⟨b', off' + i * 4 + 1, none⟩ = some (.int .i64 (ys.getD (i * 4 + 1) 0)) ∧ V.cell? ⟨b', off' + i * 4 + 2, none⟩ = some (.int .i64 (ys.getD (i * 4 + 2) 0)) ∧ V.cell? ⟨b', off' + i * 4 + 3, none⟩ = some (.int .i64 (ys.getD (i * 4 + 3) 0))) ∧ V.cell? ⟨w2.heap.size, 0, none⟩ = some (.int .i64 q0) ∧ V.cell? ⟨w2.heap.size, 1, none⟩ = some (.int .i64 q1) ∧ V.cell? ⟨w2.heap.size, 2, none⟩ = some (.int .i64 q2) ∧ V.cell? ⟨w2.heap.size, 3, none⟩ = some (.int .i64 q3)))
        clear hc hc' hcj cj
        unfold rOk at va vb
        generalize xs.getD (i * 4) 0 = x0 at KF va ls rs
        generalize xs.getD (i * 4 + 1) 0 = x1 at KF va 
        generalize xs.getD (i * 4 + 2) 0 = x2 at KF va rs
        generalize xs.getD (i * 4 + 3) 0 = x3 at KF va 
        generalize ys.getD (i * 4) 0 = z0 at KF vb ls rs
        generalize ys.getD (i * 4 + 1) 0 = z1 at KF vb 
        generalize ys.getD (i * 4 + 2) 0 = z2 at KF vb rs
        generalize ys.getD (i * 4 + 3) 0 = z3 at KF vb 
        have w1_ := vR_iff.1 va; have w2_ := vR_iff.1 vb
        obtain ⟨B1, hB1⟩ : ∃ B, (x0 == q0) = B := ⟨_, rfl⟩
        obtain ⟨B2, hB2⟩ : ∃ B, (z0 == q0) = B := ⟨_, rfl⟩
        obtain ⟨B3, hB3⟩ : ∃ B, (x0 + x2 == q0 + q2) = B := ⟨_, rfl⟩
        obtain ⟨B4, hB4⟩ : ∃ B, (z0 + z2 == q0 + q2) = B := ⟨_, rfl⟩
        rw [hB1, hB2] at ls
        rw [hB3, hB4] at rs
        generalize hlf : anyTo j (edL xs ys js q0) = lf at *
        generalize hrt : anyTo j (edR xs ys js (q0 + q2)) = rt at *
        have LS := Lib.hid ls; have RS := Lib.hid rs
        clear va vb ei ls rs hlf hrt
        obtain ⟨cj, ⟨g0, g1, g2, g3⟩, ⟨o0, o1, o2, o3⟩, u0, u1, u2, u3⟩ := KF.out _ HN.out
        have zr := HN.out.le
        have zx : b < wr.heap.size := Nat.lt_of_lt_of_le hb zr
        have zy : b' < wr.heap.size := Nat.lt_of_lt_of_le hb' zr
        have zj : bj < wr.heap.size := Nat.lt_of_lt_of_le hbj zr
        have zu := (RZ2.out.new HN.out).lt
        have q13 : -100000 ≤ q0 ∧ q0 ≤ 100000 ∧ 0 ≤ q2 ∧ q2 ≤ 200000 := ⟨qv.1, qv.2.1, qv.2.2.2.2.1, qv.2.2.2.2.2.1⟩
        clear KF hb hb' hbj
        cases lf <;> cases rt <;> cases B1 <;> cases B3
        all_goals
          go_wp2
          go_roundw
          case rel => exact ⟨j + 1, by omega, by go_num, by rw [LS.out]; first | rfl | simp [hB2], by rw [RS.out]; first | rfl | simp [hB4], Lib.hid (HN.out.trans (by (repeat (first | exact New.refl _ | assumption | refine New.alloc ?_ _ | refine New.drew ?_ | refine New.drewN ?_ _ | refine New.setCell ?_ (by first | omega | (simp; omega) | (simp; done)) _ | refine New.trans ?_ (by assumption)))))⟩
          case measure => simp [intOf]; omega
      · obtain rfl : js.length = j := by omega
        have I1 := Lib.hid (I1.out.new HN.out)
        have NM := Lib.hid (NN.out.trans HN.out)
        rw [LA.out, RA.out]
        go_wp2_with fail
        refine (DamageOf_any B1 B1 m1 d1 m1 d1 xs xs (by omega) (by omega) _ I1.out I1.out).mono ?_
        rw [dm_self]
        rintro e w9 ⟨rfl, N9⟩
        have NE := Lib.hid (NM.out.trans N9)
        go_wp2
        go_ret
        exact ⟨rfl, New.trans NE.out (by (repeat (first | exact New.refl _ | assumption | refine New.alloc ?_ _ | refine New.drew ?_ | refine New.drewN ?_ _ | refine New.setCell ?_ (by first | omega | (simp; omega) | (simp; done)) _ | refine New.trans ?_ (by assumption))))⟩
end Go.Proofs.Ytckdokijmlpngaa
