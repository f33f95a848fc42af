/- The law FnRectOfScreen, walked: the first box is the screen, and is hit at its corner exactly if the screen has points. Condition: the code can be read. -/
import Derived.Test.YtokcbfnmnccacaaDrawLt
import Derived.Test.YtokcbfnmnccacaaHitP
import Derived.Test.YtokcbfnmnccacaaHitI
import Derived.Test.YtokcbfnmnccacaaZW
namespace Go.Proofs.Ytokcbfnmnccacaa
open Go.RowKit

set_option maxHeartbeats 4000000 in
theorem lawRectOfScreen (A : Option Addr) (n c : Nat) (hn : n ≤ maxLen) (hnc : n ≤ c) (w : World) (hb : Bytes w A n) :
    Calls Try.prog 6 #[.slice A n c] w fun e w' => e = .returned (.bool true) ∧ New w w' := by
  have HB := Lib.hid hb; have HM := Lib.hid hn
  clear hb
  unfold maxLen at hn
  by_cases hbig : 1048576 < n
  · go_enter Try.func6, Try.ntmps6
    go_wp2
    go_ret
    exact ⟨rfl, by (repeat (first | exact New.refl _ | assumption | refine New.alloc ?_ _ | refine New.drew ?_ | refine New.drewN ?_ _ | refine New.setCell ?_ (by first | omega | (simp; omega) | (simp; done)) _ | refine New.trans ?_ (by assumption)))⟩
  have hm : (n : Int) ≤ 1048576 := by omega
  have hm0 : (0 : Int) ≤ (n : Int) := by omega
  go_enter Try.func6, Try.ntmps6
  go_wp2_with fail
  refine (DrawRectOf_any A n c HM.out hnc _ HB.out).mono ?_
  rintro e w1 ⟨B1, m1, d1, zs, W, H, z, rfl, I1, l1, kd, Wb, Hb, zb, N1a⟩
  have s1 := N1a.le
  have N1 := Lib.hid ((New.refl w).trans N1a); clear N1a
  replace I1 := Lib.hid I1
  obtain ⟨⟨q0, q1, q2, q3⟩, HQ⟩ : ∃ Q : Rq, Hid (recQ m1 zs W H z = Q) := ⟨_, Lib.hid rfl⟩
  obtain ⟨T, HT⟩ : ∃ T, Hid (recB m1 zs W H z = T) := ⟨_, Lib.hid rfl⟩
  go_wp2_with fail
  refine (RectOf_any B1 m1 d1 zs W H z (by omega) _ I1.out).mono ?_
  rw [HQ.out, HT.out]
  rintro e w2 ⟨rfl, N2a⟩
  have s2 := N2a.le
  have I1 := Lib.hid (I1.out.new N2a)
  have N2 := Lib.hid (N1.out.trans N2a); clear N2a
  have RZ2 := Lib.hid (Row.oneRect w2 q0 q1 q2 q3 36)
  have I1 := Lib.hid (I1.out.new ((New.refl w2).alloc (.cells #[.int .i64 q0, .int .i64 q1, .int .i64 q2, .int .i64 q3] 36)))
  have M2 := Lib.hid (N2.out.alloc (.cells #[.int .i64 q0, .int .i64 q1, .int .i64 q2, .int .i64 q3] 36))
  have t2 : w2.heap.size < (w2.alloc (.cells #[.int .i64 q0, .int .i64 q1, .int .i64 q2, .int .i64 q3] 36)).heap.size := RZ2.out.lt
  go_wp2_with fail
  refine (SRectOf_any B1 m1 d1 zs W H z (by omega) _ I1.out).mono ?_
  rw [HQ.out, HT.out]
  rintro e w3 ⟨rfl, N3a⟩
  have s3 := N3a.le
  have I1 := Lib.hid (I1.out.new N3a)
  have RZ2 := Lib.hid (RZ2.out.new N3a)
  have N3 := Lib.hid (M2.out.trans N3a); clear N3a
  have RZ3 := Lib.hid (Row.oneRect w3 q0 q1 q2 q3 36)
  have I1 := Lib.hid (I1.out.new ((New.refl w3).alloc (.cells #[.int .i64 q0, .int .i64 q1, .int .i64 q2, .int .i64 q3] 36)))
  have RZ2 := Lib.hid (RZ2.out.new ((New.refl w3).alloc (.cells #[.int .i64 q0, .int .i64 q1, .int .i64 q2, .int .i64 q3] 36)))
  have M3 := Lib.hid (N3.out.alloc (.cells #[.int .i64 q0, .int .i64 q1, .int .i64 q2, .int .i64 q3] 36))
  have t3 : w3.heap.size < (w3.alloc (.cells #[.int .i64 q0, .int .i64 q1, .int .i64 q2, .int .i64 q3] 36)).heap.size := RZ3.out.lt
  have a2 := RZ2.out.c 0 (by simp); have e2 := RZ2.out.c 1 (by simp); have p2 := RZ2.out.c 2 (by simp); have q2_ := RZ2.out.c 3 (by simp)
  simp only [List.getD_cons_zero, List.getD_cons_succ] at a2 e2 p2 q2_
  have a3 := RZ3.out.c 0 (by simp); have e3 := RZ3.out.c 1 (by simp); have p3 := RZ3.out.c 2 (by simp); have q3_ := RZ3.out.c 3 (by simp)
  simp only [List.getD_cons_zero, List.getD_cons_succ] at a3 e3 p3 q3_
  cases T
  · clear HQ HT
    go_wp2
    go_ret
    exact ⟨rfl, M3.out⟩
  · have hrb := HT.out
    have hok : layOk m1 zs W H = true := by unfold recB at hrb; exact (Bool.and_eq_true _ _ ▸ hrb).1
    obtain ⟨hv, hW, hH⟩ := layOk_iff.1 hok
    have v1 := (vtB_iff.1 hv).1
    have R0 : Hid (recB m1 zs W H 0 = true) := Lib.hid (by unfold recB; rw [hok, Bool.true_and]; exact decide_eq_true (by omega))
    have Q0 : Hid (recQ m1 zs W H 0 = (0, 0, W, H)) := Lib.hid (by unfold recQ; rw [if_pos R0.out]; exact lay_screen hv)
    obtain ⟨y, HY⟩ : ∃ y, Hid (hitA zs m1 W H 0 0 = y) := ⟨_, Lib.hid rfl⟩
    have SC := hit_screen (x := 0) (y := 0) hok
    have SL := (hit_lt (x := 0) (y := 0) hok).1
    rw [HY.out] at SC SL
    obtain ⟨W0, W1⟩ := hW
    obtain ⟨H0, H1⟩ := hH
    clear hrb hok hv
    go_wp2_with fail
    refine (RectOf_any B1 m1 d1 zs W H 0 (by omega) _ I1.out).mono ?_
    rw [Q0.out, R0.out]
    rintro e w4 ⟨rfl, N4a⟩
    have s4 := N4a.le
    have I1 := Lib.hid (I1.out.new N4a)
    have RZ2 := Lib.hid (RZ2.out.new N4a)
    have RZ3 := Lib.hid (RZ3.out.new N4a)
    have N4 := Lib.hid (M3.out.trans N4a); clear N4a
    have RZ4 := Lib.hid (Row.oneRect w4 0 0 W H 36)
    have I1 := Lib.hid (I1.out.new ((New.refl w4).alloc (.cells #[.int .i64 0, .int .i64 0, .int .i64 W, .int .i64 H] 36)))
    have RZ2 := Lib.hid (RZ2.out.new ((New.refl w4).alloc (.cells #[.int .i64 0, .int .i64 0, .int .i64 W, .int .i64 H] 36)))
    have RZ3 := Lib.hid (RZ3.out.new ((New.refl w4).alloc (.cells #[.int .i64 0, .int .i64 0, .int .i64 W, .int .i64 H] 36)))
    have M4 := Lib.hid (N4.out.alloc (.cells #[.int .i64 0, .int .i64 0, .int .i64 W, .int .i64 H] 36))
    have t4 : w4.heap.size < (w4.alloc (.cells #[.int .i64 0, .int .i64 0, .int .i64 W, .int .i64 H] 36)).heap.size := RZ4.out.lt
    have a4 := RZ4.out.c 0 (by simp); have e4 := RZ4.out.c 1 (by simp); have p4 := RZ4.out.c 2 (by simp); have q4_ := RZ4.out.c 3 (by simp)
    simp only [List.getD_cons_zero, List.getD_cons_succ] at a4 e4 p4 q4_
    clear a2 e2 p2 q2_ a3 e3 p3 q3_
    go_wp2_with fail
    refine (HitBox_any B1 m1 d1 zs W H 0 0 (by omega) _ I1.out).mono ?_
    rw [HY.out]
    rintro e w5 ⟨rfl, N5a⟩
    have s5 := N5a.le
    have I1 := Lib.hid (I1.out.new N5a)
    have RZ2 := Lib.hid (RZ2.out.new N5a)
    have RZ3 := Lib.hid (RZ3.out.new N5a)
    have RZ4 := Lib.hid (RZ4.out.new N5a)
    have N5 := Lib.hid (M4.out.trans N5a); clear N5a
    by_cases hw : 0 < W ∧ 0 < H
    · have yn : ¬ y = -1 := fun h => SC.1 h ⟨by omega, hw.1, by omega, hw.2⟩
      have y0 : 0 ≤ y := by omega
      obtain ⟨h1, h2⟩ := hw
      clear SC SL yn
      go_wp2
      go_ret
      exact ⟨ret_bool (by simp), N5.out⟩
    · obtain rfl : y = -1 := SC.2 (fun h => hw ⟨h.2.1, h.2.2.2⟩)
      clear SC SL
      by_cases h1 : 0 < W
      · have h2 : ¬ 0 < H := fun h2 => hw ⟨h1, h2⟩
        clear hw
        go_wp2
        go_ret
        exact ⟨ret_bool (by simp; omega), N5.out⟩
      · clear hw
        go_wp2
        go_ret
        exact ⟨ret_bool (by simp), N5.out⟩
end Go.Proofs.Ytokcbfnmnccacaa
