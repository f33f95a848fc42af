/- The law FnCleanBox, walked: dirty roots stay exactly when they are not in the box, and cleaning the first box cleans all. Condition: the code can be read. -/
import Derived.Test.YteofjfglmngmnaaDrawDi
import Derived.Test.YteofjfglmngmnaaCleanL
import Derived.Deep.RegionHeld3
namespace Go.Proofs.Yteofjfglmngmnaa
open Go.RowKit

set_option maxHeartbeats 4000000 in
theorem lawCleanBox (A : Option Addr) (n c : Nat) (hn : n ≤ maxLen) (hnc : n ≤ c) (w : World) (hb : Bytes w A n) :
    Calls Try.prog 13 #[.slice A n c] w fun e w' => e = .returned (.bool true) ∧ New w w' := by
  have HB := Lib.hid hb; have HM := Lib.hid hn
  clear hb
  unfold maxLen at hn
  by_cases hbig : 1048576 < n
  · go_enter Try.func13, Try.ntmps13
    go_wp2
    go_ret
    exact ⟨rfl, by (repeat (first | exact New.refl _ | assumption | refine New.alloc ?_ _ | refine New.drew ?_ | refine New.drewN ?_ _ | refine New.setCell ?_ (by first | omega | (simp; omega) | (simp; done)) _ | refine New.trans ?_ (by assumption)))⟩
  have hm : (n : Int) ≤ 1048576 := by omega
  have hm0 : (0 : Int) ≤ (n : Int) := by omega
  go_enter Try.func13, Try.ntmps13
  go_wp2_with fail
  refine (DrawCleanBox_any A n c HM.out hnc _ HB.out).mono ?_
  rintro e w1 ⟨B1, m1, d1, zs, B2, m2, d2, ms, x, rfl, I1, I2, l1, kd, l2, ld, S2, PC, bx, N1a⟩
  have s1 := N1a.le
  have N1 := Lib.hid ((New.refl w).trans N1a); clear N1a
  replace I1 := Lib.hid I1
  replace I2 := Lib.hid I2
  have LM := Lib.hid I2.out.len
  cases hok : cleanOk m1 zs ms x
  · have HZ : Hid ((cleanA m1 zs ms x).length = 0) := Lib.hid (by rw [cleanA_no hok]; rfl)
    have HOK := Lib.hid hok
    clear hok
    go_wp2_with fail
    refine (CleanBox_ansI B1 B2 m1 d1 m2 d2 zs ms x (by omega) (by omega) _ I1.out I2.out).mono ?_
    rw [HOK.out]
    rintro e w2 ⟨A2, n2, c2, rfl, l2, r2, N2a⟩
    have s2 := N2a.le
    have I1 := Lib.hid (I1.out.new N2a)
    have I2 := Lib.hid (I2.out.new N2a)
    have N2 := Lib.hid (N1.out.trans N2a); clear N2a
    obtain rfl : 0 = n2 := by have := HZ.out; omega
    have R2 := Lib.hid r2; clear l2 r2
    go_wp2_with fail
    refine (SCleanBox_ansI B1 B2 m1 d1 m2 d2 zs ms x (by omega) (by omega) _ I1.out I2.out).mono ?_
    rw [HOK.out]
    rintro e w3 ⟨A3, n3, c3, rfl, l3, r3, N3a⟩
    have s3 := N3a.le
    have I1 := Lib.hid (I1.out.new N3a)
    have I2 := Lib.hid (I2.out.new N3a)
    have R2 := Lib.hid (R2.out.new N3a)
    have N3 := Lib.hid (N2.out.trans N3a); clear N3a
    obtain rfl : 0 = n3 := by have := HZ.out; omega
    have R3 := Lib.hid r3; clear l3 r3
    go_wp2_with fail
    refine (equalInts_any _ _ 0 0 _ _ _ _ (by omega) (by omega) _ (R2.out.ints HZ.out) (R3.out.ints HZ.out)).mono ?_
    rw [decide_eq_true rfl]
    rintro e w4 ⟨rfl, N4a⟩
    have s4 := N4a.le
    have I1 := Lib.hid (I1.out.new N4a)
    have I2 := Lib.hid (I2.out.new N4a)
    have R2 := Lib.hid (R2.out.new N4a)
    have R3 := Lib.hid (R3.out.new N4a)
    have N4 := Lib.hid (N3.out.trans N4a); clear N4a
    go_wp2_with fail
    refine (equalInts_any _ _ 0 0 _ _ _ _ (by omega) (by omega) _ (R2.out.ints HZ.out) (R3.out.ints HZ.out)).mono ?_
    rw [decide_eq_true rfl]
    rintro e w5 ⟨rfl, N5a⟩
    have s5 := N5a.le
    have I1 := Lib.hid (I1.out.new N5a)
    have I2 := Lib.hid (I2.out.new N5a)
    have R2 := Lib.hid (R2.out.new N5a)
    have R3 := Lib.hid (R3.out.new N5a)
    have N5 := Lib.hid (N4.out.trans N5a); clear N5a
    go_wp2
    go_ret
    exact ⟨rfl, N5.out⟩
  · obtain ⟨nz, hnz⟩ : ∃ nz, (cleanA m1 zs ms x).length = nz := ⟨_, rfl⟩
    obtain ⟨nr, hnr⟩ : ∃ nr, (drA m1 zs ms).length = nr := ⟨_, rfl⟩
    have nz16 : nz ≤ 16 := by rw [← hnz]; exact cleanA_len
    have nr16 : nr ≤ 16 := by rw [← hnr]; exact drA_len
    have HOK := Lib.hid hok; have HZ := Lib.hid hnz; have HR := Lib.hid hnr
    have MOK := Lib.hid (cleanOk_iff.1 hok).2
    have CI := Lib.hid (fun t u (ht : t < (drA m1 zs ms).length) (hu : (drA m1 zs ms).getD t 0 = ((u : Nat) : Int)) => clean_is hok ht hu)
    have RT := Lib.hid (fun t (ht : t < (drA m1 zs ms).length) => drA_at MOK.out ht)
    have zr : nz ≤ nr := by rw [← hnz, ← hnr]; exact cleanA_le hok
    have zri : (nz : Int) ≤ (nr : Int) := by omega
    have K0 := Lib.hid (clean_zero_ok MOK.out)
    have Z0 : Hid ((cleanA m1 zs ms 0).length = 0) := Lib.hid (by rw [clean_zero MOK.out]; rfl)
    clear hnz hnr hok
    go_wp2_with fail
    refine (CleanBox_ansI B1 B2 m1 d1 m2 d2 zs ms x (by omega) (by omega) _ I1.out I2.out).mono ?_
    rw [HOK.out]
    rintro e w2 ⟨A2, n2, c2, rfl, l2, r2, N2a⟩
    have s2 := N2a.le
    have I1 := Lib.hid (I1.out.new N2a)
    have I2 := Lib.hid (I2.out.new N2a)
    have N2 := Lib.hid (N1.out.trans N2a); clear N2a
    obtain rfl : nz = n2 := by have := HZ.out; omega
    have R2 := Lib.hid r2; clear l2 r2
    go_wp2_with fail
    refine (SCleanBox_ansI B1 B2 m1 d1 m2 d2 zs ms x (by omega) (by omega) _ I1.out I2.out).mono ?_
    rw [HOK.out]
    rintro e w3 ⟨A3, n3, c3, rfl, l3, r3, N3a⟩
    have s3 := N3a.le
    have I1 := Lib.hid (I1.out.new N3a)
    have I2 := Lib.hid (I2.out.new N3a)
    have R2 := Lib.hid (R2.out.new N3a)
    have N3 := Lib.hid (N2.out.trans N3a); clear N3a
    obtain rfl : nz = n3 := by have := HZ.out; omega
    have R3 := Lib.hid r3; clear l3 r3
    go_wp2_with fail
    refine (equalInts_any _ _ nz nz _ _ _ _ (by omega) (by omega) _ (R2.out.ints HZ.out) (R3.out.ints HZ.out)).mono ?_
    rw [decide_eq_true rfl]
    rintro e w4 ⟨rfl, N4a⟩
    have s4 := N4a.le
    have I1 := Lib.hid (I1.out.new N4a)
    have I2 := Lib.hid (I2.out.new N4a)
    have R2 := Lib.hid (R2.out.new N4a)
    have R3 := Lib.hid (R3.out.new N4a)
    have N4 := Lib.hid (N3.out.trans N4a); clear N4a
    go_wp2_with fail
    refine (DirtyRoots_ans B1 B2 m1 d1 m2 d2 zs ms (by omega) (by omega) _ I1.out I2.out).mono ?_
    rintro e w5 ⟨A5, n5, c5, rfl, l5, r5, N5a⟩
    have s5 := N5a.le
    have I1 := Lib.hid (I1.out.new N5a)
    have I2 := Lib.hid (I2.out.new N5a)
    have R2 := Lib.hid (R2.out.new N5a)
    have N5 := Lib.hid (N4.out.trans N5a); clear N5a
    obtain rfl : nr = n5 := by have := HR.out; omega
    have R5 := Lib.hid r5; clear l5 r5
    have NN := Lib.hid N5.out
    go_wp2
    go_loopw [11] (fun i wr => ∃ j : Nat, j ≤ nr ∧ i = .int .i64 j ∧ Hid (New w5 wr)) (fun i _ => nr - (intOf i).toNat)
    case atStart => exact ⟨0, Nat.zero_le _, rfl, Lib.hid (New.refl _)⟩
    case round =>
      obtain ⟨j, hj, rfl, HW⟩ := hrel
      have j0 : (0 : Int) ≤ (j : Int) := by omega
      have I3 := Lib.hid (I1.out.new HW.out); have M3 := Lib.hid (I2.out.new HW.out)
      have R3 := Lib.hid (R5.out.new HW.out); have G3 := Lib.hid (R2.out.new HW.out)
      by_cases hlt : j < nr
      · have hl : j < (drA m1 zs ms).length := by rw [HR.out]; exact hlt
        obtain ⟨b', off', rfl, hb', hc'⟩ := (R3.out.ints HR.out).at_ (by omega)
        have g1 := hc' j hlt
        obtain ⟨u, hu, hum⟩ := RT.out j hl
        have ci := CI.out j u hl hu
        rw [hu] at g1
        have CU := Lib.hid ci
        have j1 : (j : Int) < (nr : Int) := by omega
        obtain ⟨av, hav⟩ : ∃ av, arA m1 zs x (u : Int) = av := ⟨_, rfl⟩
        rw [hav] at CU
        have AV := Lib.hid hav
        have hbw : b' < wr.drew.heap.size := Nat.lt_of_lt_of_le hb' (New.refl wr).drew.le
        have K1 : wr.drew.cell? ⟨b', off' + j, none⟩ = some (.int .i64 (u : Int)) := g1
        have K1h := Lib.hid K1
        have I6 := Lib.hid (I3.out.new (New.refl wr).drew); have G6 := Lib.hid (G3.out.new (New.refl wr).drew)
        have HD := Lib.hid HW.out.drew
        have KF := Lib.hid (fun (W : World) (h : New wr.drew W) => ((h.cells _ _ hbw).trans K1h.out : W.cell? ⟨b', off' + j, none⟩ = some (.int .i64 (u : Int))))
        clear hc' hb' hl hu ci hav g1
        go_wp2
        go_region_held3 (fun w' => w'.cell? ⟨b', off' + j, none⟩ = some (.int .i64 (u : Int)))
          (first | exact K1 | exact K2 | assumption)
          (first
            | (go_at_call 43; refine (lisIn_any _ nz _ u (cleanA m1 zs ms x) (by omega) _ (G6.out.ints HZ.out)).mono ?_; rw [CU.out]; rintro e wq ⟨rfl, rfl⟩)
            | (go_at_call 44; refine (IsAround_any _ m1 d1 zs x (u : Int) (by omega) _ I6.out).mono ?_; rw [AV.out]; rintro e wc ⟨rfl, Nc⟩; (have K2 := KF.out wc Nc); (replace Nc := Lib.hid (HD.out.trans Nc))))
        have ab : ((!av) == av) = false := by cases av <;> rfl
        go_wp2
        go_roundw
        case rel => exact ⟨j + 1, by omega, by go_num, Nc⟩
        case measure => simp [intOf]; omega
      · obtain rfl : nr = j := by omega
        have NV := Lib.hid (NN.out.trans HW.out)
        go_wp2_with fail
        refine (CleanBox_ansI B1 B2 m1 d1 m2 d2 zs ms 0 (by omega) (by omega) _ I3.out M3.out).mono ?_
        rw [K0.out]
        rintro e wd ⟨A8, n8, c8, rfl, l8, r8, N8⟩
        obtain rfl : 0 = n8 := by have := Z0.out; omega
        have NV2 := Lib.hid (NV.out.trans N8)
        clear l8 r8 N8
        go_wp2
        go_ret
        exact ⟨rfl, NV2.out⟩
end Go.Proofs.Yteofjfglmngmnaa
