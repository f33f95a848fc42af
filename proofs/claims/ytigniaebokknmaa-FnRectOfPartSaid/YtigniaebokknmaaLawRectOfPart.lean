/- The law FnRectOfPart, walked: a part that is laid out alone, in its box's size, lies as it does in the tree. Condition: the code can be read. -/
import Derived.Test.YtigniaebokknmaaDrawLt
import Derived.Test.YtigniaebokknmaaZW
import Derived.Test.YtigniaebokknmaaPartS
import Derived.Test.YtigniaebokknmaaPartL
import Derived.Test.YtigniaebokknmaaZF
import Derived.Deep.QuietTactic
import Derived.BigQuiet
namespace Go.Proofs.Ytigniaebokknmaa
open Go.RowKit

set_option maxHeartbeats 4000000 in
theorem lawRectOfPart (A : Option Addr) (n c : Nat) (hn : n ≤ maxLen) (hnc : n ≤ c) (w : World) (hb : Bytes w A n) :
    Calls Try.prog 7 #[.slice A n c] w fun e w' => e = .returned (.bool true) ∧ New w w' := by
  have HB := Lib.hid hb; have HM := Lib.hid hn
  clear hb
  unfold maxLen at hn
  by_cases hbig : 1048576 < n
  · go_enter Try.func7, Try.ntmps7
    go_wp2
    go_ret
    exact ⟨rfl, by (repeat (first | exact New.refl _ | assumption | refine New.alloc ?_ _ | refine New.drew ?_ | refine New.drewN ?_ _ | refine New.setCell ?_ (by first | omega | (simp; omega) | (simp; done)) _ | refine New.trans ?_ (by assumption)))⟩
  have hm : (n : Int) ≤ 1048576 := by omega
  have hm0 : (0 : Int) ≤ (n : Int) := by omega
  go_enter Try.func7, Try.ntmps7
  go_wp2_with fail
  refine (DrawRectOf_any A n c HM.out hnc _ HB.out).mono ?_
  rintro e w1 ⟨B1, m1, d1, zs, x, y, z, rfl, I1, l1, kd, xb, yb, zb, N1a⟩
  have s1 := N1a.le
  have N1 := Lib.hid ((New.refl w).trans N1a); clear N1a
  replace I1 := Lib.hid I1
  obtain ⟨⟨q0, q1, q2, q3⟩, HQ⟩ : ∃ Q : Rq, Hid (recQ m1 zs x y z = Q) := ⟨_, Lib.hid rfl⟩
  obtain ⟨T, HT⟩ : ∃ T, Hid (recB m1 zs x y z = T) := ⟨_, Lib.hid rfl⟩
  obtain ⟨zb0, zb1⟩ := zb
  have HL := Lib.hid I1.out.len
  go_wp2_with fail
  refine (RectOf_any B1 m1 d1 zs x y z (by omega) _ I1.out).mono ?_
  rw [HQ.out, HT.out]
  rintro e w2 ⟨rfl, N2a⟩
  have s2 := N2a.le
  have I1 := Lib.hid (I1.out.new N2a)
  have N2 := Lib.hid (N1.out.trans N2a); clear N2a
  have RZ2 := Lib.hid (Row.oneRect w2 q0 q1 q2 q3 32)
  have I1 := Lib.hid (I1.out.new ((New.refl w2).alloc (.cells #[.int .i64 q0, .int .i64 q1, .int .i64 q2, .int .i64 q3] 32)))
  have M2 := Lib.hid (N2.out.alloc (.cells #[.int .i64 q0, .int .i64 q1, .int .i64 q2, .int .i64 q3] 32))
  have t2 : w2.heap.size < (w2.alloc (.cells #[.int .i64 q0, .int .i64 q1, .int .i64 q2, .int .i64 q3] 32)).heap.size := RZ2.out.lt
  go_wp2_with fail
  refine (SRectOf_any B1 m1 d1 zs x y z (by omega) _ I1.out).mono ?_
  rw [HQ.out, HT.out]
  rintro e w3 ⟨rfl, N3a⟩
  have s3 := N3a.le
  have I1 := Lib.hid (I1.out.new N3a)
  have RZ2 := Lib.hid (RZ2.out.new N3a)
  have N3 := Lib.hid (M2.out.trans N3a); clear N3a
  have RZ3 := Lib.hid (Row.oneRect w3 q0 q1 q2 q3 32)
  have I1 := Lib.hid (I1.out.new ((New.refl w3).alloc (.cells #[.int .i64 q0, .int .i64 q1, .int .i64 q2, .int .i64 q3] 32)))
  have RZ2 := Lib.hid (RZ2.out.new ((New.refl w3).alloc (.cells #[.int .i64 q0, .int .i64 q1, .int .i64 q2, .int .i64 q3] 32)))
  have M3 := Lib.hid (N3.out.alloc (.cells #[.int .i64 q0, .int .i64 q1, .int .i64 q2, .int .i64 q3] 32))
  have t3 : w3.heap.size < (w3.alloc (.cells #[.int .i64 q0, .int .i64 q1, .int .i64 q2, .int .i64 q3] 32)).heap.size := RZ3.out.lt
  have a2 := RZ2.out.c 0 (by simp); have e2 := RZ2.out.c 1 (by simp); have p2 := RZ2.out.c 2 (by simp); have q2_ := RZ2.out.c 3 (by simp)
  simp only [List.getD_cons_zero, List.getD_cons_succ] at a2 e2 p2 q2_
  have a3 := RZ3.out.c 0 (by simp); have e3 := RZ3.out.c 1 (by simp); have p3 := RZ3.out.c 2 (by simp); have q3_ := RZ3.out.c 3 (by simp)
  simp only [List.getD_cons_zero, List.getD_cons_succ] at a3 e3 p3 q3_
  cases T
  · clear HT HQ
    go_wp2
    go_wp2
    go_ret
    exact ⟨rfl, M3.out⟩
  · have hrb := HT.out
    have hok : layOk m1 zs x y = true := by unfold recB at hrb; exact (Bool.and_eq_true _ _ ▸ hrb).1
    have hz : 0 ≤ z ∧ z ≤ (m1 : Int) - 1 := by unfold recB at hrb; exact of_decide_eq_true (Bool.and_eq_true _ _ ▸ hrb).2
    obtain ⟨a, rfl⟩ : ∃ a : Nat, z = (a : Int) := ⟨z.toNat, by omega⟩
    have ha : a < m1 := by omega
    obtain ⟨hv, hx0, hy0⟩ := layOk_iff.1 hok
    have hq : layR zs m1 x y a = (q0, q1, q2, q3) := by have := HQ.out; unfold recQ at this; rw [if_pos hrb, Int.toNat_natCast] at this; exact this
    have vq := lay_vR hv hx0 hy0 ha
    rw [hq] at vq
    obtain ⟨vq0, vq1⟩ : 0 ≤ q2 ∧ 0 ≤ q3 := by have := vR_iff.1 vq; dsimp only at this; omega
    have OK : Hid (partOk m1 zs (a : Int) = true) := Lib.hid (nodeOk_iff.2 ⟨hv, a, rfl, ha⟩)
    have eb := en_bd (zs := zs) ha
    have VP := part_valid hv HL.out ha
    have LP := Lib.hid (show (partA m1 zs (a : Int)).length = (en zs m1 a - a) * 9 by rw [part_at hv ha]; exact partL_len HL.out (by omega))
    have RB := Lib.hid (fun j (hj : a + j < m1) => (show recB m1 zs x y ((a : Int) + (j : Int)) = true by unfold recB; rw [hok, Bool.true_and, decide_eq_true_eq]; omega))
    have RQ := Lib.hid (fun j (hj : a + j < m1) => (show recQ m1 zs x y ((a : Int) + (j : Int)) = layR zs m1 x y (a + j) by unfold recQ; rw [if_pos (RB.out j hj)]; congr 1))
    have SH : Shift zs (partA m1 zs (a : Int)) a (en zs m1 a - a) := by rw [part_at hv ha]; exact part_shift hv HL.out ha
    have VR := Lib.hid (fun i (hi : i < m1) => lay_vR hv hx0 hy0 hi)
    have PL := Lib.hid (lay_part SH hv VP ha rfl (W := x) (H := y))
    obtain ⟨M, hM⟩ : ∃ M, en zs m1 a - a = M := ⟨_, rfl⟩
    rw [hM] at VP LP PL
    rw [hq] at PL
    dsimp only at PL
    have M16 : M ≤ 16 := by omega
    have aM : a + M ≤ m1 := by omega
    have M1 : (1 : Int) ≤ (M : Int) := by omega
    have M2 : (M : Int) ≤ 16 := by omega
    have a0 : (0 : Int) ≤ (a : Int) := by omega
    have a16 : (a : Int) ≤ 16 := by omega
    clear hrb hz hq vq SH hM eb HQ HT
    by_cases hs : q2 ≤ 10000 ∧ q3 ≤ 10000
    · obtain ⟨s2, s3⟩ := hs
      obtain ⟨ys, hys⟩ : ∃ ys, partA m1 zs (a : Int) = ys := ⟨_, rfl⟩
      have PY := Lib.hid hys
      rw [hys] at VP LP PL
      have LO : layOk M ys q2 q3 = true := layOk_iff.2 ⟨VP, ⟨vq0, s2⟩, ⟨vq1, s3⟩⟩
      have LQ : Hid ((flat4 (layA M ys q2 q3)).length = M * 4) := Lib.hid (by rw [flat4_len, layA_yes LO]; simp)
      have V4 := Lib.hid (fun k => flat4_at (layA M ys q2 q3) k)
      have LA := Lib.hid (fun i hi => lay_at LO (i := i) hi)
      clear LO VP hys
      go_wp2_with fail
      refine (PartOf_ansT B1 m1 d1 zs (a : Int) (by omega) kd _ I1.out).mono ?_
      rw [OK.out, PY.out]
      rintro e w4 ⟨A4, n4, c4, rfl, l4, r4, N4a⟩
      have s4 := N4a.le
      have I1 := Lib.hid (I1.out.new N4a)
      have RZ2 := Lib.hid (RZ2.out.new N4a)
      have RZ3 := Lib.hid (RZ3.out.new N4a)
      have N4 := Lib.hid (M3.out.trans N4a); clear N4a
      obtain rfl : M = n4 := by have := LP.out; omega
      have R4 := Lib.hid r4; clear l4 r4
      clear a2 e2 p2 q2_ a3 e3 p3 q3_
      have a2 := RZ2.out.c 0 (by simp); have e2 := RZ2.out.c 1 (by simp); have p2 := RZ2.out.c 2 (by simp); have q2_ := RZ2.out.c 3 (by simp)
      simp only [List.getD_cons_zero, List.getD_cons_succ] at a2 e2 p2 q2_
      go_wp2_with fail
      refine (LayoutTree_ans A4 M c4 ys q2 q3 (by omega) _ (Sts.of_res R4.out LP.out)).mono ?_
      rintro e w5 ⟨A5, n5, c5, rfl, l5, r5, N5a⟩
      have s5 := N5a.le
      have I1 := Lib.hid (I1.out.new N5a)
      have RZ2 := Lib.hid (RZ2.out.new N5a)
      have RZ3 := Lib.hid (RZ3.out.new N5a)
      have R4 := Lib.hid (R4.out.new N5a)
      have N5 := Lib.hid (N4.out.trans N5a); clear N5a
      obtain rfl : M = n5 := by have := LQ.out; omega
      have R5 := Lib.hid r5; clear l5 r5
      obtain ⟨b, off, rfl, hb, hc⟩ := (Sts.of_res (m := 3) R5.out LQ.out).at_ (by omega)
      have GC := Lib.hid (fun i (hi : i < M) V (hW : New w5 V) => (show V.cell? ⟨b, off + i * 4, none⟩ = some (.int .i64 (layR ys M q2 q3 i).1) ∧ V.cell? ⟨b, off + i * 4 + 1, none⟩ = some (.int .i64 (layR ys M q2 q3 i).2.1) ∧ V.cell? ⟨b, off + i * 4 + 2, none⟩ = some (.int .i64 (layR ys M q2 q3 i).2.2.1) ∧ V.cell? ⟨b, off + i * 4 + 3, none⟩ = some (.int .i64 (layR ys M q2 q3 i).2.2.2) by
        obtain ⟨v0, v1, v2, v3⟩ := V4.out i
        rw [LA.out i hi] at v0 v1 v2 v3
        exact ⟨(hW.cells b _ hb).trans ((hc (i * 4) (by omega)).trans (by rw [v0])), (hW.cells b _ hb).trans ((hc (i * 4 + 1) (by omega)).trans (by rw [v1])), (hW.cells b _ hb).trans ((hc (i * 4 + 2) (by omega)).trans (by rw [v2])), (hW.cells b _ hb).trans ((hc (i * 4 + 3) (by omega)).trans (by rw [v3]))⟩))
      have a2 := RZ2.out.c 0 (by simp); have e2 := RZ2.out.c 1 (by simp); have p2 := RZ2.out.c 2 (by simp); have q2_ := RZ2.out.c 3 (by simp)
      simp only [List.getD_cons_zero, List.getD_cons_succ] at a2 e2 p2 q2_
      have KX := Lib.hid (fun V (hV : New w5 V) => (show V.cell? ⟨w2.heap.size, 0, none⟩ = some (.int .i64 q0) ∧ V.cell? ⟨w2.heap.size, 1, none⟩ = some (.int .i64 q1) from by
        have h := RZ2.out.new hV
        exact ⟨by simpa using h.c 0 (by simp), by simpa using h.c 1 (by simp)⟩))
      have NN := Lib.hid N5.out
      clear hc a2 e2 p2 q2_ hv hx0 hy0 hok
      go_wp2
      go_loopw [14] (fun i wr => ∃ j : Nat, j ≤ M ∧ i = .int .i64 j ∧ Hid (New w5 wr)) (fun i _ => M - (intOf i).toNat)
      case atStart => exact ⟨0, Nat.zero_le _, rfl, Lib.hid (New.refl _)⟩
      case round =>
        obtain ⟨j, hj, rfl, HW⟩ := hrel
        have j0 : (0 : Int) ≤ (j : Int) := by omega
        by_cases hlt : j < M
        · have j1 : (j : Int) < (M : Int) := by omega
          have rb := Lib.hid (RB.out j (by omega))
          have hpl := PL.out j hlt
          have vb := VR.out (a + j) (by omega)
          rw [hpl] at vb
          have rq := Lib.hid ((RQ.out j (by omega)).trans hpl)
          clear hpl
          have gc := Lib.hid (GC.out j hlt)
          generalize layR ys M q2 q3 j = cq at rq gc vb
          obtain ⟨c0, c1_, c2_, c3_⟩ := cq
          unfold shR at vb
          dsimp only at vb
          have vb := vR_iff.1 vb
          have HR := RectOf_any B1 m1 d1 zs x y ((a : Int) + (j : Int)) (by omega) wr (I1.out.new HW.out)
          rw [rb.out, rq.out] at HR
          unfold shR qv at HR
          dsimp only at HR
          have HR := Lib.hid HR
          go_wp2_with fail
          refine HR.out.mono ?_
          rintro e wp ⟨rfl, Np⟩
          have ZR := Lib.hid (Row.oneRect wp (c0 + q0) (c1_ + q1) c2_ c3_ 32)
          have HP := Lib.hid ((HW.out.trans Np).alloc (.cells #[.int .i64 (c0 + q0), .int .i64 (c1_ + q1), .int .i64 c2_, .int .i64 c3_] 32))
          have tp : wp.heap.size < (wp.alloc (.cells #[.int .i64 (c0 + q0), .int .i64 (c1_ + q1), .int .i64 c2_, .int .i64 c3_] 32)).heap.size := ZR.out.lt
          have za := ZR.out.c 0 (by simp); have ze := ZR.out.c 1 (by simp); have zp_ := ZR.out.c 2 (by simp); have zq_ := ZR.out.c 3 (by simp)
          simp only [List.getD_cons_zero, List.getD_cons_succ] at za ze zp_ zq_
          obtain ⟨g0, g1, g2, g3⟩ := gc.out _ HP.out
          obtain ⟨k0, k1⟩ := KX.out _ HP.out
          try dsimp only at g0 g1 g2 g3
          go_wp2
          set_option maxRecDepth 20000 in go_quiet (fail)
          have NQ := Lib.hid (HP.out.drewN nq)
          generalize World.drewN _ nq = W5 at NQ ⊢
          set_option maxRecDepth 20000 in go_wp2
          go_roundw
          case rel => exact ⟨j + 1, hlt, by go_num, NQ⟩
          case measure => simp [intOf]; omega
        · obtain rfl : M = j := by omega
          go_wp2
          go_ret
          exact ⟨by first | rfl | simp, NN.out.trans HW.out⟩
    · clear RB RQ PL LP VP OK
      have hs' : ¬ q2 ≤ 10000 ∨ ¬ q3 ≤ 10000 := by omega
      clear hs
      rcases hs' with h2 | h3
      · have h2' : 10000 < q2 := by omega
        go_wp2
        go_wp2
        go_ret
        exact ⟨rfl, M3.out⟩
      · by_cases h2 : q2 ≤ 10000
        all_goals go_wp2
        all_goals
          go_ret
          exact ⟨by first | rfl | simp, M3.out⟩
end Go.Proofs.Ytigniaebokknmaa
