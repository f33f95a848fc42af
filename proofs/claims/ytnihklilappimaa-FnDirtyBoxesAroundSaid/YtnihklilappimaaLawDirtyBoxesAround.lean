/- The law FnDirtyBoxesAround, walked: a box is dirty just if a box on its path is marked. Condition: the code can be read. -/
import Derived.Test.YtnihklilappimaaDrawDi
import Derived.Test.YtnihklilappimaaDirtyL
import Derived.Test.YtnihklilappimaaDirtyP
namespace Go.Proofs.Ytnihklilappimaa
open Go.RowKit

set_option maxHeartbeats 4000000 in
theorem lawDirtyBoxesAround (A : Option Addr) (n c : Nat) (hn : n ≤ maxLen) (hnc : n ≤ c) (w : World) (hb : Bytes w A n) :
    Calls Try.prog 5 #[.slice A n c] w fun e w' => e = .returned (.bool true) ∧ New w w' := by
  have HB := Lib.hid hb; have HM := Lib.hid hn
  clear hb
  unfold maxLen at hn
  by_cases hbig : 1048576 < n
  · go_enter Try.func5, Try.ntmps5
    go_wp2
    go_ret
    exact ⟨rfl, by (repeat (first | exact New.refl _ | assumption | refine New.alloc ?_ _ | refine New.drew ?_ | refine New.drewN ?_ _ | refine New.setCell ?_ (by first | omega | (simp; omega) | (simp; done)) _ | refine New.trans ?_ (by assumption)))⟩
  have hm : (n : Int) ≤ 1048576 := by omega
  have hm0 : (0 : Int) ≤ (n : Int) := by omega
  go_enter Try.func5, Try.ntmps5
  go_wp2_with fail
  refine (DrawDirtyBoxes_any A n c HM.out hnc _ HB.out).mono ?_
  rintro e w1 ⟨B1, m1, d1, zs, B2, m2, d2, ms, rfl, I1, I2, l1, kd, l2, ld, S2, PC, N1a⟩
  have s1 := N1a.le
  have N1 := Lib.hid ((New.refl w).trans N1a); clear N1a
  replace I1 := Lib.hid I1
  replace I2 := Lib.hid I2
  have LM := Lib.hid I2.out.len
  by_cases hz : dbA m1 zs ms = []
  · have HZ : Hid ((dbA m1 zs ms).length = 0) := Lib.hid (by rw [hz]; rfl)
    clear hz
    go_wp2_with fail
    refine (DirtyBoxes_ans B1 B2 m1 d1 m2 d2 zs ms (by omega) (by omega) _ I1.out I2.out).mono ?_
    rintro e w2 ⟨A2, n2, c2, rfl, l2, r2, N2a⟩
    have s2 := N2a.le
    have I1 := Lib.hid (I1.out.new N2a)
    have I2 := Lib.hid (I2.out.new N2a)
    have N2 := Lib.hid (N1.out.trans N2a); clear N2a
    obtain rfl : 0 = n2 := by have := HZ.out; omega
    have R2 := Lib.hid r2; clear l2 r2
    go_wp2_with fail
    refine (SDirtyBoxes_ans B1 B2 m1 d1 m2 d2 zs ms (by omega) (by omega) _ I1.out I2.out).mono ?_
    rintro e w3 ⟨A3, n3, c3, rfl, l3, r3, N3a⟩
    have s3 := N3a.le
    have I1 := Lib.hid (I1.out.new N3a)
    have I2 := Lib.hid (I2.out.new N3a)
    have R2 := Lib.hid (R2.out.new N3a)
    have N3 := Lib.hid (N2.out.trans N3a); clear N3a
    obtain rfl : 0 = n3 := by have := HZ.out; omega
    have R3 := Lib.hid r3; clear l3 r3
    go_wp2_with fail
    refine (equalInts_any _ _ 0 0 _ _ _ _ (by omega) (by omega) _ (R2.out.ints HZ.out) (R3.out.ints HZ.out)).mono ?_
    rw [decide_eq_true rfl]
    rintro e w4 ⟨rfl, N4a⟩
    have s4 := N4a.le
    have I1 := Lib.hid (I1.out.new N4a)
    have I2 := Lib.hid (I2.out.new N4a)
    have R2 := Lib.hid (R2.out.new N4a)
    have R3 := Lib.hid (R3.out.new N4a)
    have N4 := Lib.hid (N3.out.trans N4a); clear N4a
    go_wp2_with fail
    refine (SDirtyBoxes_ans B1 B2 m1 d1 m2 d2 zs ms (by omega) (by omega) _ I1.out I2.out).mono ?_
    rintro e w5 ⟨A5, n5, c5, rfl, l5, r5, N5a⟩
    have s5 := N5a.le
    have I1 := Lib.hid (I1.out.new N5a)
    have I2 := Lib.hid (I2.out.new N5a)
    have R2 := Lib.hid (R2.out.new N5a)
    have R3 := Lib.hid (R3.out.new N5a)
    have N5 := Lib.hid (N4.out.trans N5a); clear N5a
    obtain rfl : 0 = n5 := by have := HZ.out; omega
    have R5 := Lib.hid r5; clear l5 r5
    go_wp2_with fail
    refine (equalInts_any _ _ 0 0 _ _ _ _ (by omega) (by omega) _ (R2.out.ints HZ.out) (R5.out.ints HZ.out)).mono ?_
    rw [decide_eq_true rfl]
    rintro e w6 ⟨rfl, N6a⟩
    have s6 := N6a.le
    have I1 := Lib.hid (I1.out.new N6a)
    have I2 := Lib.hid (I2.out.new N6a)
    have R2 := Lib.hid (R2.out.new N6a)
    have R3 := Lib.hid (R3.out.new N6a)
    have R5 := Lib.hid (R5.out.new N6a)
    have N6 := Lib.hid (N5.out.trans N6a); clear N6a
    go_wp2
    go_ret
    exact ⟨rfl, N6.out⟩
  · have hok : marksB m1 zs ms = true := by cases hh : marksB m1 zs ms with | true => rfl | false => exact absurd (by unfold dbA; rw [hh]; rfl) hz
    obtain ⟨nz, hnz⟩ : ∃ nz, (dbA m1 zs ms).length = nz := ⟨_, rfl⟩
    have nz16 : nz ≤ 16 := by rw [← hnz]; exact dbA_len
    have nz1 : 1 ≤ nz := by rw [← hnz]; exact List.length_pos_iff.2 hz
    have zi : (1 : Int) ≤ (nz : Int) := by omega
    have zj : (nz : Int) ≤ 16 := by omega
    have zb : ((nz : Int) == 0) = false := by simp; omega
    have HZ := Lib.hid hnz; have HOK := Lib.hid hok
    obtain ⟨hv, _, hms⟩ := mks_at hok
    obtain ⟨v0, v1⟩ := (vtB_iff.1 hv).1
    have V := Lib.hid hv; have MB := Lib.hid hms
    clear hz hnz hok hv hms
    go_wp2_with fail
    refine (DirtyBoxes_ans B1 B2 m1 d1 m2 d2 zs ms (by omega) (by omega) _ I1.out I2.out).mono ?_
    rintro e w2 ⟨A2, n2, c2, rfl, l2, r2, N2a⟩
    have s2 := N2a.le
    have I1 := Lib.hid (I1.out.new N2a)
    have I2 := Lib.hid (I2.out.new N2a)
    have N2 := Lib.hid (N1.out.trans N2a); clear N2a
    obtain rfl : nz = n2 := by have := HZ.out; omega
    have R2 := Lib.hid r2; clear l2 r2
    go_wp2_with fail
    refine (SDirtyBoxes_ans B1 B2 m1 d1 m2 d2 zs ms (by omega) (by omega) _ I1.out I2.out).mono ?_
    rintro e w3 ⟨A3, n3, c3, rfl, l3, r3, N3a⟩
    have s3 := N3a.le
    have I1 := Lib.hid (I1.out.new N3a)
    have I2 := Lib.hid (I2.out.new N3a)
    have R2 := Lib.hid (R2.out.new N3a)
    have N3 := Lib.hid (N2.out.trans N3a); clear N3a
    obtain rfl : nz = n3 := by have := HZ.out; omega
    have R3 := Lib.hid r3; clear l3 r3
    go_wp2_with fail
    refine (equalInts_any _ _ nz nz _ _ _ _ (by omega) (by omega) _ (R2.out.ints HZ.out) (R3.out.ints HZ.out)).mono ?_
    rw [decide_eq_true rfl]
    rintro e w4 ⟨rfl, N4a⟩
    have s4 := N4a.le
    have I1 := Lib.hid (I1.out.new N4a)
    have I2 := Lib.hid (I2.out.new N4a)
    have R2 := Lib.hid (R2.out.new N4a)
    have R3 := Lib.hid (R3.out.new N4a)
    have N4 := Lib.hid (N3.out.trans N4a); clear N4a
    have ZB := Lib.hid (show ∀ z ∈ ms, 0 ≤ z from fun z hz => (MB.out z hz).1)
    have DB := Lib.hid (dbA_yes HOK.out)
    have PA := Lib.hid (fun j (hj : j < m1) => pathA_at V.out hj)
    have HU := Lib.hid (fun j (hj : j < m1) => dep_le5 V.out hj)
    have NN := Lib.hid N4.out
    go_wp2
    go_loopw [6] (fun i wr => ∃ j : Nat, j ≤ m1 ∧ i = .int .i64 j ∧ Hid (New w4 wr)) (fun i _ => m1 - (intOf i).toNat)
    case atStart => exact ⟨0, Nat.zero_le _, rfl, Lib.hid (New.refl _)⟩
    case round =>
      obtain ⟨j, hj, rfl, HW⟩ := hrel
      have j0 : (0 : Int) ≤ (j : Int) := by omega
      by_cases hlt : j < m1
      · have I3 := Lib.hid (I1.out.new HW.out)
        have j1 : (j : Int) < (m1 : Int) := by omega
        have LP : Hid ((pathA m1 zs (j : Int)).length = dep zs j + 1) := Lib.hid (by rw [PA.out j hlt, List.length_map, path_len])
        have d5 := HU.out j hlt
        obtain ⟨np, hnp⟩ : ∃ np, dep zs j + 1 = np := ⟨_, rfl⟩
        have LP2 : Hid ((pathA m1 zs (j : Int)).length = np) := Lib.hid (LP.out.trans hnp)
        have np6 : (np : Int) ≤ 6 := by omega
        have np0 : (0 : Int) ≤ (np : Int) := by omega
        have PL : Hid ((pathL zs j).length = np) := Lib.hid ((path_len zs j).trans hnp)
        have CV := Lib.hid (cov_path (zs := zs) (i := j) ZB.out)
        have IN := Lib.hid (show mk (dbA m1 zs ms) j = (drt (mk ms) zs j).isSome by rw [DB.out]; exact mk_cov hlt)
        clear LP d5 hnp
        go_wp2_with fail
        refine (PathTo_ans B1 m1 d1 zs (j : Int) (by omega) _ I3.out).mono ?_
        rintro e wc ⟨A9, n9, c9, rfl, l9, r9, Nc⟩
        obtain rfl : np = n9 := by have := LP2.out; omega
        have R9 := Lib.hid r9
        have M4 := Lib.hid (I2.out.new (HW.out.trans Nc))
        have RG := Lib.hid (R2.out.new (HW.out.trans Nc))
        replace Nc := Lib.hid (HW.out.trans Nc)
        clear l9 r9
        go_wp2
        go_loopw [8, 9] (fun s i wz => wz = wc ∧ ∃ (t : Nat) (v : Bool), t ≤ np ∧ i = .int .i64 t ∧ s = .bool v ∧ Hid (v = ((pathL zs j).take t).any (mk ms))) (fun _ i _ => np - (intOf i).toNat)
        case atStart => exact ⟨rfl, 0, false, Nat.zero_le _, rfl, rfl, Lib.hid (by simp)⟩
        case round =>
          obtain ⟨rfl, t, v, ht, rfl, rfl, HV⟩ := hrel
          have t0 : (0 : Int) ≤ (t : Int) := by omega
          by_cases htn : t < np
          · have t1 : (t : Int) < (np : Int) := by omega
            obtain ⟨b', off', rfl, hb', hc'⟩ := (R9.out.ints LP2.out).at_ (by omega)
            have g1 := hc' t htn
            rw [PA.out j hlt, getD_map] at g1
            have AT := Lib.hid (any_take_nat (p := mk ms) (l := pathL zs j) (show t < (pathL zs j).length by rw [PL.out]; exact htn))
            generalize (pathL zs j).getD t 0 = u at *
            clear hc' hb'
            cases v
            · obtain ⟨x, hx⟩ : ∃ x, mk ms u = x := ⟨_, rfl⟩
              have HX := Lib.hid hx
              have AT2 : Hid (x = ((pathL zs j).take (t + 1)).any (mk ms)) := Lib.hid (by rw [AT.out, ← HV.out, hx, Bool.false_or])
              clear hx
              go_wp2_with fail
              refine (lisIn_any B2 m2 d2 u ms (by omega) _ M4.out).mono ?_
              rw [HX.out]
              rintro e w' ⟨rfl, rfl⟩
              go_wp2
              go_roundw
              case rel => exact ⟨trivial, t + 1, x, by omega, by go_num, rfl, AT2⟩
              case measure => simp [intOf]; omega
            · have AT2 : Hid (true = ((pathL zs j).take (t + 1)).any (mk ms)) := Lib.hid (by rw [AT.out, ← HV.out, Bool.true_or])
              go_wp2
              go_roundw
              case rel => exact ⟨trivial, t + 1, true, by omega, by go_num, rfl, AT2⟩
              case measure => simp [intOf]; omega
          · obtain rfl : np = t := by omega
            have ev : mk (dbA m1 zs ms) j = v := by
              rw [IN.out, CV.out, HV.out, List.take_of_length_le (by rw [PL.out]; exact Nat.le_refl _)]
            have EV := Lib.hid ev
            clear ev
            go_wp2_with fail
            refine (lisIn_any _ nz _ j _ (by omega) _ (RG.out.ints HZ.out)).mono ?_
            rw [EV.out]
            rintro e w' ⟨rfl, rfl⟩
            cases v
            · go_wp2
              go_roundw
              case rel => exact ⟨j + 1, by omega, by go_num, Nc⟩
              case measure => simp [intOf]; omega
            · go_wp2
              go_roundw
              case rel => exact ⟨j + 1, by omega, by go_num, Nc⟩
              case measure => simp [intOf]; omega
      · obtain rfl : m1 = j := by omega
        go_wp2
        go_ret
        exact ⟨rfl, NN.out.trans HW.out⟩
end Go.Proofs.Ytnihklilappimaa
