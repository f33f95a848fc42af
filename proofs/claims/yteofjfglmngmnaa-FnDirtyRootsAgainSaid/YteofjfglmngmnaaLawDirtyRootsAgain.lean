/- The law FnDirtyRootsAgain, walked: the roots are their own roots, and with the first box marked there is only this one. Condition: the code can be read. -/
import Derived.Test.YteofjfglmngmnaaDrawDi
import Derived.Test.YteofjfglmngmnaaDirtyL
import Derived.Test.YteofjfglmngmnaaAppG
namespace Go.Proofs.Yteofjfglmngmnaa
open Go.RowKit

set_option maxRecDepth 100000 in
set_option maxHeartbeats 4000000 in
theorem lawDirtyRootsAgain (A : Option Addr) (n c : Nat) (hn : n ≤ maxLen) (hnc : n ≤ c) (w : World) (hb : Bytes w A n) :
    Calls Try.prog 11 #[.slice A n c] w fun e w' => e = .returned (.bool true) ∧ New w w' := by
  have HB := Lib.hid hb; have HM := Lib.hid hn
  clear hb
  unfold maxLen at hn
  by_cases hbig : 1048576 < n
  · go_enter Try.func11, Try.ntmps11
    go_wp2
    go_ret
    exact ⟨rfl, by (repeat (first | exact New.refl _ | assumption | refine New.alloc ?_ _ | refine New.drew ?_ | refine New.drewN ?_ _ | refine New.setCell ?_ (by first | omega | (simp; omega) | (simp; done)) _ | refine New.trans ?_ (by assumption)))⟩
  have hm : (n : Int) ≤ 1048576 := by omega
  have hm0 : (0 : Int) ≤ (n : Int) := by omega
  go_enter Try.func11, Try.ntmps11
  go_wp2_with fail
  refine (DrawDirtyRoots_any A n c HM.out hnc _ HB.out).mono ?_
  rintro e w1 ⟨B1, m1, d1, zs, B2, m2, d2, ms, rfl, I1, I2, l1, kd, l2, ld, S2, PC, N1a⟩
  have s1 := N1a.le
  have N1 := Lib.hid ((New.refl w).trans N1a); clear N1a
  replace I1 := Lib.hid I1
  replace I2 := Lib.hid I2
  have LM := Lib.hid I2.out.len
  by_cases hz : drA m1 zs ms = []
  · have HZ : Hid ((drA m1 zs ms).length = 0) := Lib.hid (by rw [hz]; rfl)
    clear hz
    go_wp2_with fail
    refine (DirtyRoots_ans B1 B2 m1 d1 m2 d2 zs ms (by omega) (by omega) _ I1.out I2.out).mono ?_
    rintro e w2 ⟨A2, n2, c2, rfl, l2, r2, N2a⟩
    have s2 := N2a.le
    have I1 := Lib.hid (I1.out.new N2a)
    have I2 := Lib.hid (I2.out.new N2a)
    have N2 := Lib.hid (N1.out.trans N2a); clear N2a
    obtain rfl : 0 = n2 := by have := HZ.out; omega
    have R2 := Lib.hid r2; clear l2 r2
    go_wp2_with fail
    refine (SDirtyRoots_ans B1 B2 m1 d1 m2 d2 zs ms (by omega) (by omega) _ I1.out I2.out).mono ?_
    rintro e w3 ⟨A3, n3, c3, rfl, l3, r3, N3a⟩
    have s3 := N3a.le
    have I1 := Lib.hid (I1.out.new N3a)
    have I2 := Lib.hid (I2.out.new N3a)
    have R2 := Lib.hid (R2.out.new N3a)
    have N3 := Lib.hid (N2.out.trans N3a); clear N3a
    obtain rfl : 0 = n3 := by have := HZ.out; omega
    have R3 := Lib.hid r3; clear l3 r3
    go_wp2_with fail
    refine (equalInts_any _ _ 0 0 _ _ _ _ (by omega) (by omega) _ (R2.out.ints HZ.out) (R3.out.ints HZ.out)).mono ?_
    rw [decide_eq_true rfl]
    rintro e w4 ⟨rfl, N4a⟩
    have s4 := N4a.le
    have I1 := Lib.hid (I1.out.new N4a)
    have I2 := Lib.hid (I2.out.new N4a)
    have R2 := Lib.hid (R2.out.new N4a)
    have R3 := Lib.hid (R3.out.new N4a)
    have N4 := Lib.hid (N3.out.trans N4a); clear N4a
    go_wp2_with fail
    refine (SDirtyRoots_ans B1 B2 m1 d1 m2 d2 zs ms (by omega) (by omega) _ I1.out I2.out).mono ?_
    rintro e w5 ⟨A5, n5, c5, rfl, l5, r5, N5a⟩
    have s5 := N5a.le
    have I1 := Lib.hid (I1.out.new N5a)
    have I2 := Lib.hid (I2.out.new N5a)
    have R2 := Lib.hid (R2.out.new N5a)
    have R3 := Lib.hid (R3.out.new N5a)
    have N5 := Lib.hid (N4.out.trans N5a); clear N5a
    obtain rfl : 0 = n5 := by have := HZ.out; omega
    have R5 := Lib.hid r5; clear l5 r5
    go_wp2_with fail
    refine (equalInts_any _ _ 0 0 _ _ _ _ (by omega) (by omega) _ (R2.out.ints HZ.out) (R5.out.ints HZ.out)).mono ?_
    rw [decide_eq_true rfl]
    rintro e w6 ⟨rfl, N6a⟩
    have s6 := N6a.le
    have I1 := Lib.hid (I1.out.new N6a)
    have I2 := Lib.hid (I2.out.new N6a)
    have R2 := Lib.hid (R2.out.new N6a)
    have R3 := Lib.hid (R3.out.new N6a)
    have R5 := Lib.hid (R5.out.new N6a)
    have N6 := Lib.hid (N5.out.trans N6a); clear N6a
    go_wp2
    go_ret
    exact ⟨rfl, N6.out⟩
  · have hok : marksB m1 zs ms = true := by cases hh : marksB m1 zs ms with | true => rfl | false => exact absurd (by unfold drA; rw [hh]; rfl) hz
    obtain ⟨nz, hnz⟩ : ∃ nz, (drA m1 zs ms).length = nz := ⟨_, rfl⟩
    have nz16 : nz ≤ 16 := by rw [← hnz]; exact drA_len
    have nz1 : 1 ≤ nz := by rw [← hnz]; exact List.length_pos_iff.2 hz
    have zi : (1 : Int) ≤ (nz : Int) := by omega
    have zj : (nz : Int) ≤ 16 := by omega
    have zb : ((nz : Int) == 0) = false := by simp; omega
    have HZ := Lib.hid hnz; have HOK := Lib.hid hok
    obtain ⟨hv, _, hms⟩ := mks_at hok
    obtain ⟨v0, v1⟩ := (vtB_iff.1 hv).1
    have V := Lib.hid hv; have MB := Lib.hid hms
    clear hz hnz hok hv hms
    go_wp2_with fail
    refine (DirtyRoots_ans B1 B2 m1 d1 m2 d2 zs ms (by omega) (by omega) _ I1.out I2.out).mono ?_
    rintro e w2 ⟨A2, n2, c2, rfl, l2, r2, N2a⟩
    have s2 := N2a.le
    have I1 := Lib.hid (I1.out.new N2a)
    have I2 := Lib.hid (I2.out.new N2a)
    have N2 := Lib.hid (N1.out.trans N2a); clear N2a
    obtain rfl : nz = n2 := by have := HZ.out; omega
    have R2 := Lib.hid r2; clear l2 r2
    go_wp2_with fail
    refine (SDirtyRoots_ans B1 B2 m1 d1 m2 d2 zs ms (by omega) (by omega) _ I1.out I2.out).mono ?_
    rintro e w3 ⟨A3, n3, c3, rfl, l3, r3, N3a⟩
    have s3 := N3a.le
    have I1 := Lib.hid (I1.out.new N3a)
    have I2 := Lib.hid (I2.out.new N3a)
    have R2 := Lib.hid (R2.out.new N3a)
    have N3 := Lib.hid (N2.out.trans N3a); clear N3a
    obtain rfl : nz = n3 := by have := HZ.out; omega
    have R3 := Lib.hid r3; clear l3 r3
    go_wp2_with fail
    refine (equalInts_any _ _ nz nz _ _ _ _ (by omega) (by omega) _ (R2.out.ints HZ.out) (R3.out.ints HZ.out)).mono ?_
    rw [decide_eq_true rfl]
    rintro e w4 ⟨rfl, N4a⟩
    have s4 := N4a.le
    have I1 := Lib.hid (I1.out.new N4a)
    have I2 := Lib.hid (I2.out.new N4a)
    have R2 := Lib.hid (R2.out.new N4a)
    have R3 := Lib.hid (R3.out.new N4a)
    have N4 := Lib.hid (N3.out.trans N4a); clear N4a
    have HA := Lib.hid (root_again HOK.out)
    have HA2 : Hid ((drA m1 zs (drA m1 zs ms)).length = nz) := Lib.hid (by rw [HA.out]; exact HZ.out)
    have HB := Lib.hid (root_zero V.out (show ms.length ≤ 15 by rw [LM.out]; omega) MB.out)
    have HB2 : Hid ((drA m1 zs (ms ++ [0])).length = 1) := Lib.hid (by rw [HB.out]; rfl)
    have m7 : (m2 : Int) ≤ 7 := by omega
    have mb : ((m2 : Int) == 16) = false := by simp; omega
    go_wp2_with fail
    refine (DirtyRoots_ans B1 _ m1 d1 nz _ zs (drA m1 zs ms) (by omega) (by omega) _ I1.out (R2.out.ints HZ.out)).mono ?_
    rintro e w5 ⟨A5, n5, c5, rfl, l5, r5, N5a⟩
    have s5 := N5a.le
    have I1 := Lib.hid (I1.out.new N5a)
    have I2 := Lib.hid (I2.out.new N5a)
    have R2 := Lib.hid (R2.out.new N5a)
    have N5 := Lib.hid (N4.out.trans N5a); clear N5a
    obtain rfl : nz = n5 := by have := HA2.out; omega
    have R5 := Lib.hid r5; clear l5 r5
    go_wp2_with fail
    refine (equalInts_any _ _ nz nz _ _ _ _ (by omega) (by omega) _ (R5.out.ints HA2.out) (R2.out.ints HZ.out)).mono ?_
    rw [decide_eq_true HA.out]
    rintro e w6 ⟨rfl, N6a⟩
    have s6 := N6a.le
    have I1 := Lib.hid (I1.out.new N6a)
    have I2 := Lib.hid (I2.out.new N6a)
    have R2 := Lib.hid (R2.out.new N6a)
    have R5 := Lib.hid (R5.out.new N6a)
    have N6 := Lib.hid (N5.out.trans N6a); clear N6a
    have NN := Lib.hid N6.out
    have LB : Hid ((ms ++ [0]).length ≤ 8) := Lib.hid (by rw [List.length_append, LM.out]; simp; omega)
    have E0 := Lib.hid (Own.empty (lo := w6.heap.size) w6 0 (Nat.le_refl _) rfl)
    go_wp2_with (first
      | (at_builtin; refine wp_appG (by first | rfl | simp [Region.wanted, yielded, go_sem]) _ _ rfl w6.heap.size _ [] rfl E0.out B2 m2 d2 ms rfl (I2.out.new ((New.refl _).alloc _)) (by simp; omega) (by simp) ?_; intro v26 w26 O26 G26; (have N26 := Lib.hid (new_own (New.alloc (New.refl w6) _) G26 E0.out (Nat.le_refl _))); (rw [List.nil_append] at O26); (replace O26 := Lib.hid O26); (have s26 := N26.out.le); clear G26 E0)
      | (at_builtin; refine wp_appG (by first | rfl | simp [Region.wanted, yielded, go_sem]) _ _ rfl w6.heap.size _ _ rfl (O26.out.alloc _) (some ⟨w26.heap.size, 0, none⟩) 1 1 [0] rfl (Ints.one w26 0 _) (by rw [LM.out]; omega) (by simp; omega) ?_; intro v27 w27 O27 G27))
    have N27 := Lib.hid (new_own (N26.out.alloc _) G27 (O26.out.alloc _) (Nat.le_refl _))
    obtain ⟨A27, c27, rfl, hc7, Z27⟩ := O27.res
    have L27 := LB.out
    obtain ⟨k7, hk7⟩ : ∃ k, (ms ++ [0]).length = k := ⟨_, rfl⟩
    have Z28 := Lib.hid (Z27.ints hk7)
    rw [hk7] at L27 hc7 ⊢
    have I27 := Lib.hid (I1.out.new N27.out)
    have NM := Lib.hid (NN.out.trans N27.out)
    clear G27 O27 Z27 hk7
    go_wp2_with fail
    refine (DirtyRoots_ans B1 A27 m1 d1 k7 c27 zs (ms ++ [0]) (by omega) (by omega) _ I27.out Z28.out).mono ?_
    rintro e w28 ⟨A28, n28, c28, rfl, l28, r28, N28⟩
    obtain rfl : 1 = n28 := by have := HB2.out; omega
    have R28 := Lib.hid r28
    have NP := Lib.hid (NM.out.trans N28)
    clear l28 r28 N28
    go_wp2_with fail
    refine (equalInts_any _ _ 1 1 _ _ _ [0] (by omega) (by omega) _ ((R28.out.new ((New.refl _).alloc (.cells #[.int .i64 0] 3))).ints HB2.out) (Ints.one w28 0 _)).mono ?_
    rw [decide_eq_true HB.out]
    rintro e w29 ⟨rfl, N29⟩
    have NQ := Lib.hid ((NP.out.alloc _).trans N29)
    go_wp2
    go_ret
    exact ⟨rfl, NQ.out⟩
end Go.Proofs.Yteofjfglmngmnaa
