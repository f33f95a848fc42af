/- The law FnDirtyBoxes, walked: dirty boxes are those in dirty roots, as many as these count. Condition: the code can be read. -/
import Derived.Test.YteofjfglmngmnaaDrawDi
import Derived.Test.YteofjfglmngmnaaDirtyL
namespace Go.Proofs.Yteofjfglmngmnaa
open Go.RowKit

set_option maxHeartbeats 4000000 in
theorem lawDirtyBoxes (A : Option Addr) (n c : Nat) (hn : n ≤ maxLen) (hnc : n ≤ c) (w : World) (hb : Bytes w A n) :
    Calls Try.prog 12 #[.slice A n c] w fun e w' => e = .returned (.bool true) ∧ New w w' := by
  have HB := Lib.hid hb; have HM := Lib.hid hn
  clear hb
  unfold maxLen at hn
  by_cases hbig : 1048576 < n
  · go_enter Try.func12, Try.ntmps12
    go_wp2
    go_ret
    exact ⟨rfl, by (repeat (first | exact New.refl _ | assumption | refine New.alloc ?_ _ | refine New.drew ?_ | refine New.drewN ?_ _ | refine New.setCell ?_ (by first | omega | (simp; omega) | (simp; done)) _ | refine New.trans ?_ (by assumption)))⟩
  have hm : (n : Int) ≤ 1048576 := by omega
  have hm0 : (0 : Int) ≤ (n : Int) := by omega
  go_enter Try.func12, Try.ntmps12
  go_wp2_with fail
  refine (DrawDirtyBoxes_any A n c HM.out hnc _ HB.out).mono ?_
  rintro e w1 ⟨B1, m1, d1, zs, B2, m2, d2, ms, rfl, I1, I2, l1, kd, l2, ld, S2, PC, N1a⟩
  have s1 := N1a.le
  have N1 := Lib.hid ((New.refl w).trans N1a); clear N1a
  replace I1 := Lib.hid I1
  replace I2 := Lib.hid I2
  have LM := Lib.hid I2.out.len
  by_cases hz : dbA m1 zs ms = []
  · have HZ : Hid ((dbA m1 zs ms).length = 0) := Lib.hid (by rw [hz]; rfl)
    clear hz
    go_wp2_with fail
    refine (DirtyBoxes_ans B1 B2 m1 d1 m2 d2 zs ms (by omega) (by omega) _ I1.out I2.out).mono ?_
    rintro e w2 ⟨A2, n2, c2, rfl, l2, r2, N2a⟩
    have s2 := N2a.le
    have I1 := Lib.hid (I1.out.new N2a)
    have I2 := Lib.hid (I2.out.new N2a)
    have N2 := Lib.hid (N1.out.trans N2a); clear N2a
    obtain rfl : 0 = n2 := by have := HZ.out; omega
    have R2 := Lib.hid r2; clear l2 r2
    go_wp2_with fail
    refine (SDirtyBoxes_ans B1 B2 m1 d1 m2 d2 zs ms (by omega) (by omega) _ I1.out I2.out).mono ?_
    rintro e w3 ⟨A3, n3, c3, rfl, l3, r3, N3a⟩
    have s3 := N3a.le
    have I1 := Lib.hid (I1.out.new N3a)
    have I2 := Lib.hid (I2.out.new N3a)
    have R2 := Lib.hid (R2.out.new N3a)
    have N3 := Lib.hid (N2.out.trans N3a); clear N3a
    obtain rfl : 0 = n3 := by have := HZ.out; omega
    have R3 := Lib.hid r3; clear l3 r3
    go_wp2_with fail
    refine (equalInts_any _ _ 0 0 _ _ _ _ (by omega) (by omega) _ (R2.out.ints HZ.out) (R3.out.ints HZ.out)).mono ?_
    rw [decide_eq_true rfl]
    rintro e w4 ⟨rfl, N4a⟩
    have s4 := N4a.le
    have I1 := Lib.hid (I1.out.new N4a)
    have I2 := Lib.hid (I2.out.new N4a)
    have R2 := Lib.hid (R2.out.new N4a)
    have R3 := Lib.hid (R3.out.new N4a)
    have N4 := Lib.hid (N3.out.trans N4a); clear N4a
    go_wp2_with fail
    refine (SDirtyBoxes_ans B1 B2 m1 d1 m2 d2 zs ms (by omega) (by omega) _ I1.out I2.out).mono ?_
    rintro e w5 ⟨A5, n5, c5, rfl, l5, r5, N5a⟩
    have s5 := N5a.le
    have I1 := Lib.hid (I1.out.new N5a)
    have I2 := Lib.hid (I2.out.new N5a)
    have R2 := Lib.hid (R2.out.new N5a)
    have R3 := Lib.hid (R3.out.new N5a)
    have N5 := Lib.hid (N4.out.trans N5a); clear N5a
    obtain rfl : 0 = n5 := by have := HZ.out; omega
    have R5 := Lib.hid r5; clear l5 r5
    go_wp2_with fail
    refine (equalInts_any _ _ 0 0 _ _ _ _ (by omega) (by omega) _ (R2.out.ints HZ.out) (R5.out.ints HZ.out)).mono ?_
    rw [decide_eq_true rfl]
    rintro e w6 ⟨rfl, N6a⟩
    have s6 := N6a.le
    have I1 := Lib.hid (I1.out.new N6a)
    have I2 := Lib.hid (I2.out.new N6a)
    have R2 := Lib.hid (R2.out.new N6a)
    have R3 := Lib.hid (R3.out.new N6a)
    have R5 := Lib.hid (R5.out.new N6a)
    have N6 := Lib.hid (N5.out.trans N6a); clear N6a
    go_wp2
    go_ret
    exact ⟨rfl, N6.out⟩
  · have hok : marksB m1 zs ms = true := by cases hh : marksB m1 zs ms with | true => rfl | false => exact absurd (by unfold dbA; rw [hh]; rfl) hz
    obtain ⟨nz, hnz⟩ : ∃ nz, (dbA m1 zs ms).length = nz := ⟨_, rfl⟩
    have nz16 : nz ≤ 16 := by rw [← hnz]; exact dbA_len
    have nz1 : 1 ≤ nz := by rw [← hnz]; exact List.length_pos_iff.2 hz
    have zi : (1 : Int) ≤ (nz : Int) := by omega
    have zj : (nz : Int) ≤ 16 := by omega
    have zb : ((nz : Int) == 0) = false := by simp; omega
    have HZ := Lib.hid hnz; have HOK := Lib.hid hok
    obtain ⟨hv, _, hms⟩ := mks_at hok
    obtain ⟨v0, v1⟩ := (vtB_iff.1 hv).1
    have V := Lib.hid hv; have MB := Lib.hid hms
    clear hz hnz hok hv hms
    go_wp2_with fail
    refine (DirtyBoxes_ans B1 B2 m1 d1 m2 d2 zs ms (by omega) (by omega) _ I1.out I2.out).mono ?_
    rintro e w2 ⟨A2, n2, c2, rfl, l2, r2, N2a⟩
    have s2 := N2a.le
    have I1 := Lib.hid (I1.out.new N2a)
    have I2 := Lib.hid (I2.out.new N2a)
    have N2 := Lib.hid (N1.out.trans N2a); clear N2a
    obtain rfl : nz = n2 := by have := HZ.out; omega
    have R2 := Lib.hid r2; clear l2 r2
    go_wp2_with fail
    refine (SDirtyBoxes_ans B1 B2 m1 d1 m2 d2 zs ms (by omega) (by omega) _ I1.out I2.out).mono ?_
    rintro e w3 ⟨A3, n3, c3, rfl, l3, r3, N3a⟩
    have s3 := N3a.le
    have I1 := Lib.hid (I1.out.new N3a)
    have I2 := Lib.hid (I2.out.new N3a)
    have R2 := Lib.hid (R2.out.new N3a)
    have N3 := Lib.hid (N2.out.trans N3a); clear N3a
    obtain rfl : nz = n3 := by have := HZ.out; omega
    have R3 := Lib.hid r3; clear l3 r3
    go_wp2_with fail
    refine (equalInts_any _ _ nz nz _ _ _ _ (by omega) (by omega) _ (R2.out.ints HZ.out) (R3.out.ints HZ.out)).mono ?_
    rw [decide_eq_true rfl]
    rintro e w4 ⟨rfl, N4a⟩
    have s4 := N4a.le
    have I1 := Lib.hid (I1.out.new N4a)
    have I2 := Lib.hid (I2.out.new N4a)
    have R2 := Lib.hid (R2.out.new N4a)
    have R3 := Lib.hid (R3.out.new N4a)
    have N4 := Lib.hid (N3.out.trans N4a); clear N4a
    obtain ⟨nr, hnr⟩ : ∃ nr, (drA m1 zs ms).length = nr := ⟨_, rfl⟩
    have nr16 : nr ≤ 16 := by rw [← hnr]; exact drA_len
    have HR := Lib.hid hnr
    have HS := Lib.hid (cov_sum V.out HOK.out); have HA := Lib.hid (cov_again HOK.out)
    have CK := Lib.hid (fun j (hj : j < m1) => cntA_at V.out hj)
    have RT := Lib.hid (fun t (ht : t < (drA m1 zs ms).length) => drA_at HOK.out ht)
    have SB := Lib.hid (sumTo_bd V.out HOK.out)
    clear hnr
    go_wp2_with fail
    refine (DirtyRoots_ans B1 B2 m1 d1 m2 d2 zs ms (by omega) (by omega) _ I1.out I2.out).mono ?_
    rintro e w5 ⟨A5, n5, c5, rfl, l5, r5, N5a⟩
    have s5 := N5a.le
    have I1 := Lib.hid (I1.out.new N5a)
    have I2 := Lib.hid (I2.out.new N5a)
    have R2 := Lib.hid (R2.out.new N5a)
    have N5 := Lib.hid (N4.out.trans N5a); clear N5a
    obtain rfl : nr = n5 := by have := HR.out; omega
    have R5 := Lib.hid r5; clear l5 r5
    have NN := Lib.hid N5.out
    go_wp2
    go_loopw [7, 8] (fun al i wr => ∃ j : Nat, j ≤ nr ∧ i = .int .i64 j ∧ al = .int .i64 (sumTo m1 zs (drA m1 zs ms) j) ∧ Hid (New w5 wr)) (fun _ i _ => nr - (intOf i).toNat)
    case atStart => exact ⟨0, Nat.zero_le _, rfl, rfl, Lib.hid (New.refl _)⟩
    case round =>
      obtain ⟨j, hj, rfl, rfl, HW⟩ := hrel
      have j0 : (0 : Int) ≤ (j : Int) := by omega
      have I3 := Lib.hid (I1.out.new HW.out)
      by_cases hlt : j < nr
      · have hl : j < (drA m1 zs ms).length := by rw [HR.out]; exact hlt
        obtain ⟨b', off', rfl, hb', hc'⟩ := (R5.out.ints HR.out).at_ (by omega)
        have g1 := (HW.out.cells b' _ hb').trans (hc' j hlt)
        obtain ⟨u, hu, hum⟩ := RT.out j hl
        have sa := SB.out j
        have sb := SB.out (j + 1)
        have st : sumTo m1 zs (drA m1 zs ms) (j + 1) = sumTo m1 zs (drA m1 zs ms) j + ((en zs m1 u : Int) - (u : Int)) := by rw [sumTo_succ, hu, Int.toNat_natCast]
        have c1 := CK.out u hum
        rw [hu] at g1
        have ub := en_bd (zs := zs) hum
        obtain ⟨z, hz⟩ : ∃ z, (en zs m1 u : Int) - (u : Int) = z := ⟨_, rfl⟩
        rw [hz] at c1 st
        have C1 := Lib.hid c1; have ST := Lib.hid st
        have z0 : 0 ≤ z := by omega
        have z1 : z ≤ 16 := by omega
        have j1 : (j : Int) < (nr : Int) := by omega
        rw [st] at sb
        generalize sumTo m1 zs (drA m1 zs ms) j = s0 at *
        clear hc' c1 st hz ub hl
        go_wp2_with fail
        refine (CountIn_any B1 m1 d1 zs (u : Int) (by omega) _ I3.out).mono ?_
        rw [C1.out]
        rintro e wc ⟨rfl, Nc⟩
        replace Nc := Lib.hid (HW.out.trans Nc)
        go_wp2
        go_roundw
        case rel => exact ⟨j + 1, by omega, by go_num, by rw [ST.out], Nc⟩
        case measure => simp [intOf]; omega
      · obtain rfl : nr = j := by omega
        have e1 : sumTo m1 zs (drA m1 zs ms) nr = (nz : Int) := by have := HS.out; rw [HR.out, HZ.out] at this; exact this
        rw [e1]
        have RR := Lib.hid (R5.out.new HW.out); have RG := Lib.hid (R2.out.new HW.out)
        have NW := Lib.hid (NN.out.trans HW.out)
        have HA2 : Hid ((dbA m1 zs (drA m1 zs ms)).length = nz) := Lib.hid (by rw [HA.out]; exact HZ.out)
        clear e1
        go_wp2_with fail
        refine (DirtyBoxes_ans B1 _ m1 d1 nr _ zs (drA m1 zs ms) (by omega) (by omega) _ I3.out (RR.out.ints HR.out)).mono ?_
        rintro e wd ⟨A8, n8, c8, rfl, l8, r8, N8⟩
        obtain rfl : nz = n8 := by have := HA2.out; omega
        have RG2 := Lib.hid (RG.out.new N8); have R8 := Lib.hid r8
        have NW2 := Lib.hid (NW.out.trans N8)
        clear l8 r8 N8
        go_wp2_with fail
        refine (equalInts_any _ _ nz nz _ _ _ _ (by omega) (by omega) _ (R8.out.ints HA2.out) (RG2.out.ints HZ.out)).mono ?_
        rw [decide_eq_true HA.out]
        rintro e we ⟨rfl, N9⟩
        have NW3 := Lib.hid (NW2.out.trans N9)
        go_wp2
        go_ret
        exact ⟨rfl, NW3.out⟩
end Go.Proofs.Yteofjfglmngmnaa
