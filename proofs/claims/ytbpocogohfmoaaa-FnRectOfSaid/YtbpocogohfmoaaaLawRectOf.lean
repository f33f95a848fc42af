/- The law FnRectOf, walked: a box's rectangle is the one that the layout has. Condition: the code can be read. -/
import Derived.Test.YtbpocogohfmoaaaDrawLt
import Derived.Test.YtbpocogohfmoaaaZW
namespace Go.Proofs.Ytbpocogohfmoaaa
open Go.RowKit

set_option maxHeartbeats 4000000 in
theorem lawRectOf (A : Option Addr) (n c : Nat) (hn : n ≤ maxLen) (hnc : n ≤ c) (w : World) (hb : Bytes w A n) :
    Calls Try.prog 11 #[.slice A n c] w fun e w' => e = .returned (.bool true) ∧ New w w' := by
  have HB := Lib.hid hb; have HM := Lib.hid hn
  clear hb
  unfold maxLen at hn
  by_cases hbig : 1048576 < n
  · go_enter Try.func11, Try.ntmps11
    go_wp2
    go_ret
    exact ⟨rfl, by (repeat (first | exact New.refl _ | assumption | refine New.alloc ?_ _ | refine New.drew ?_ | refine New.drewN ?_ _ | refine New.setCell ?_ (by first | omega | (simp; omega) | (simp; done)) _ | refine New.trans ?_ (by assumption)))⟩
  have hm : (n : Int) ≤ 1048576 := by omega
  have hm0 : (0 : Int) ≤ (n : Int) := by omega
  go_enter Try.func11, Try.ntmps11
  go_wp2_with fail
  refine (DrawRectOf_any A n c HM.out hnc _ HB.out).mono ?_
  rintro e w1 ⟨B1, m1, d1, zs, x, y, z, rfl, I1, l1, kd, xb, yb, zb, N1a⟩
  have s1 := N1a.le
  have N1 := Lib.hid ((New.refl w).trans N1a); clear N1a
  replace I1 := Lib.hid I1
  obtain ⟨⟨q0, q1, q2, q3⟩, HQ⟩ : ∃ Q : Rq, Hid (recQ m1 zs x y z = Q) := ⟨_, Lib.hid rfl⟩
  obtain ⟨T, HT⟩ : ∃ T, Hid (recB m1 zs x y z = T) := ⟨_, Lib.hid rfl⟩
  obtain ⟨zb0, zb1⟩ := zb
  obtain ⟨nq, LQ⟩ : ∃ nq, Hid ((flat4 (layA m1 zs x y)).length = nq * 4) := ⟨(layA m1 zs x y).length, Lib.hid (flat4_len _)⟩
  have nqa : nq = (layA m1 zs x y).length := by have h1 := LQ.out; rw [flat4_len] at h1; omega
  have nq16 : nq ≤ 16 := by rw [nqa]; exact layA_len
  have nqi : (nq : Int) ≤ 16 := by omega
  have nqj : (0 : Int) ≤ (nq : Int) := by omega
  have HA := Lib.hid nqa
  clear nqa
  go_wp2_with fail
  refine (RectOf_any B1 m1 d1 zs x y z (by omega) _ I1.out).mono ?_
  rw [HQ.out, HT.out]
  rintro e w2 ⟨rfl, N2a⟩
  have s2 := N2a.le
  have I1 := Lib.hid (I1.out.new N2a)
  have N2 := Lib.hid (N1.out.trans N2a); clear N2a
  have RZ2 := Lib.hid (Row.oneRect w2 q0 q1 q2 q3 34)
  have I1 := Lib.hid (I1.out.new ((New.refl w2).alloc (.cells #[.int .i64 q0, .int .i64 q1, .int .i64 q2, .int .i64 q3] 34)))
  have M2 := Lib.hid (N2.out.alloc (.cells #[.int .i64 q0, .int .i64 q1, .int .i64 q2, .int .i64 q3] 34))
  have t2 : w2.heap.size < (w2.alloc (.cells #[.int .i64 q0, .int .i64 q1, .int .i64 q2, .int .i64 q3] 34)).heap.size := RZ2.out.lt
  go_wp2_with fail
  refine (SRectOf_any B1 m1 d1 zs x y z (by omega) _ I1.out).mono ?_
  rw [HQ.out, HT.out]
  rintro e w3 ⟨rfl, N3a⟩
  have s3 := N3a.le
  have I1 := Lib.hid (I1.out.new N3a)
  have RZ2 := Lib.hid (RZ2.out.new N3a)
  have N3 := Lib.hid (M2.out.trans N3a); clear N3a
  have RZ3 := Lib.hid (Row.oneRect w3 q0 q1 q2 q3 34)
  have I1 := Lib.hid (I1.out.new ((New.refl w3).alloc (.cells #[.int .i64 q0, .int .i64 q1, .int .i64 q2, .int .i64 q3] 34)))
  have RZ2 := Lib.hid (RZ2.out.new ((New.refl w3).alloc (.cells #[.int .i64 q0, .int .i64 q1, .int .i64 q2, .int .i64 q3] 34)))
  have M3 := Lib.hid (N3.out.alloc (.cells #[.int .i64 q0, .int .i64 q1, .int .i64 q2, .int .i64 q3] 34))
  have t3 : w3.heap.size < (w3.alloc (.cells #[.int .i64 q0, .int .i64 q1, .int .i64 q2, .int .i64 q3] 34)).heap.size := RZ3.out.lt
  have a2 := RZ2.out.c 0 (by simp); have e2 := RZ2.out.c 1 (by simp); have p2 := RZ2.out.c 2 (by simp); have q2_ := RZ2.out.c 3 (by simp)
  simp only [List.getD_cons_zero, List.getD_cons_succ] at a2 e2 p2 q2_
  have a3 := RZ3.out.c 0 (by simp); have e3 := RZ3.out.c 1 (by simp); have p3 := RZ3.out.c 2 (by simp); have q3_ := RZ3.out.c 3 (by simp)
  simp only [List.getD_cons_zero, List.getD_cons_succ] at a3 e3 p3 q3_
  go_wp2_with fail
  refine (LayoutTree_ans B1 m1 d1 zs x y (by omega) _ I1.out).mono ?_
  rintro e w4 ⟨A4, n4, c4, rfl, l4, r4, N4a⟩
  have s4 := N4a.le
  have I1 := Lib.hid (I1.out.new N4a)
  have RZ2 := Lib.hid (RZ2.out.new N4a)
  have RZ3 := Lib.hid (RZ3.out.new N4a)
  have N4 := Lib.hid (M3.out.trans N4a); clear N4a
  clear a2 e2 p2 q2_ a3 e3 p3 q3_
  obtain rfl : nq = n4 := by have := LQ.out; omega
  have R4 := Lib.hid r4; clear l4 r4
  have a2 := RZ2.out.c 0 (by simp); have e2 := RZ2.out.c 1 (by simp); have p2 := RZ2.out.c 2 (by simp); have q2_ := RZ2.out.c 3 (by simp)
  simp only [List.getD_cons_zero, List.getD_cons_succ] at a2 e2 p2 q2_
  have LC := lay_cases m1 zs x y z
  rw [← HA.out, HT.out] at LC
  cases T
  · have hno : ¬ (0 ≤ z ∧ z ≤ (nq : Int) - 1) := of_decide_eq_false LC
    clear LC HA HQ HT
    by_cases hz : 0 ≤ z
    · have hz1 : (nq : Int) ≤ z := by omega
      have d1 : decide (z < (nq : Int)) = false := by simp; omega
      clear hno
      go_wp2
      go_quiet (fail)
      go_wp2
      go_ret
      exact ⟨by first | rfl | (simp; omega) | simp, N4.out.drewN _⟩
    · obtain rfl : z = -1 := by omega
      clear hno hz
      go_wp2
      go_quiet (fail)
      go_wp2
      go_ret
      exact ⟨by first | rfl | (simp; omega) | simp, N4.out.drewN _⟩
  · have hyes : 0 ≤ z ∧ z ≤ (nq : Int) - 1 := of_decide_eq_true LC
    obtain ⟨k, rfl⟩ : ∃ k : Nat, z = (k : Int) := ⟨z.toNat, by omega⟩
    have hk : k < nq := by omega
    have hki : (k : Int) < (nq : Int) := by omega
    have hk0 : (0 : Int) ≤ (k : Int) := by omega
    have hrb := HT.out
    have hok : layOk m1 zs x y = true := by unfold recB at hrb; exact (Bool.and_eq_true _ _ ▸ hrb).1
    have hkn : k < m1 := by have := HA.out; rw [layA_yes hok] at this; simp at this; omega
    have hq : layR zs m1 x y k = (q0, q1, q2, q3) := by have := HQ.out; unfold recQ at this; rw [if_pos hrb, Int.toNat_natCast] at this; exact this
    obtain ⟨v0, v1, v2, v3⟩ := flat4_at (layA m1 zs x y) k
    rw [lay_at hok hkn, hq] at v0 v1 v2 v3
    obtain ⟨b, off, rfl, hb, hc⟩ := (Sts.of_res (m := 3) R4.out LQ.out).at_ (by omega)
    have g0 := hc (k * 4) (by omega)
    have g1 := hc (k * 4 + 1) (by omega)
    have g2 := hc (k * 4 + 2) (by omega)
    have g3 := hc (k * 4 + 3) (by omega)
    rw [v0] at g0
    rw [v1, ← Nat.add_assoc] at g1
    rw [v2, ← Nat.add_assoc] at g2
    rw [v3, ← Nat.add_assoc] at g3
    dsimp only at g0 g1 g2 g3
    clear hc LC hyes hrb hok hkn hq v0 v1 v2 v3 HA HQ HT
    go_wp2
    go_quiet (fail)
    go_wp2
    go_ret
    exact ⟨by first | rfl | (simp; omega) | simp, N4.out.drewN _⟩
end Go.Proofs.Ytbpocogohfmoaaa
