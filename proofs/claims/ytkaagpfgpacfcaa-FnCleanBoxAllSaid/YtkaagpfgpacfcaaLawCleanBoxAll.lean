/- The law FnCleanBoxAll, walked: cleaning the first dirty root that is left, again and again, cleans all. Condition: the code can be read. -/
import Derived.Test.YtkaagpfgpacfcaaDrawDi
import Derived.Test.YtkaagpfgpacfcaaCleanM
namespace Go.Proofs.Ytkaagpfgpacfcaa
open Go.RowKit

set_option maxHeartbeats 4000000 in
theorem lawCleanBoxAll (A : Option Addr) (n c : Nat) (hn : n ≤ maxLen) (hnc : n ≤ c) (w : World) (hb : Bytes w A n) :
    Calls Try.prog 5 #[.slice A n c] w fun e w' => e = .returned (.bool true) ∧ New w w' := by
  have HB := Lib.hid hb; have HM := Lib.hid hn
  clear hb
  unfold maxLen at hn
  by_cases hbig : 1048576 < n
  · go_enter Try.func5, Try.ntmps5
    go_wp2
    go_ret
    exact ⟨rfl, by (repeat (first | exact New.refl _ | assumption | refine New.alloc ?_ _ | refine New.drew ?_ | refine New.drewN ?_ _ | refine New.setCell ?_ (by first | omega | (simp; omega) | (simp; done)) _ | refine New.trans ?_ (by assumption)))⟩
  have hm : (n : Int) ≤ 1048576 := by omega
  have hm0 : (0 : Int) ≤ (n : Int) := by omega
  go_enter Try.func5, Try.ntmps5
  go_wp2_with fail
  refine (DrawCleanBox_any A n c HM.out hnc _ HB.out).mono ?_
  rintro e w1 ⟨B1, m1, d1, zs, B2, m2, d2, ms, x, rfl, I1, I2, l1, kd, l2, ld, S2, PC, bx, N1a⟩
  have s1 := N1a.le
  have N1 := Lib.hid ((New.refl w).trans N1a); clear N1a
  replace I1 := Lib.hid I1
  replace I2 := Lib.hid I2
  have LM := Lib.hid I2.out.len
  cases hok : cleanOk m1 zs ms x
  · have HZ : Hid ((cleanA m1 zs ms x).length = 0) := Lib.hid (by rw [cleanA_no hok]; rfl)
    have HOK := Lib.hid hok
    clear hok
    go_wp2_with fail
    refine (CleanBox_ansI B1 B2 m1 d1 m2 d2 zs ms x (by omega) (by omega) _ I1.out I2.out).mono ?_
    rw [HOK.out]
    rintro e w2 ⟨A2, n2, c2, rfl, l2, r2, N2a⟩
    have s2 := N2a.le
    have I1 := Lib.hid (I1.out.new N2a)
    have I2 := Lib.hid (I2.out.new N2a)
    have N2 := Lib.hid (N1.out.trans N2a); clear N2a
    obtain rfl : 0 = n2 := by have := HZ.out; omega
    have R2 := Lib.hid r2; clear l2 r2
    go_wp2_with fail
    refine (SCleanBox_ansI B1 B2 m1 d1 m2 d2 zs ms x (by omega) (by omega) _ I1.out I2.out).mono ?_
    rw [HOK.out]
    rintro e w3 ⟨A3, n3, c3, rfl, l3, r3, N3a⟩
    have s3 := N3a.le
    have I1 := Lib.hid (I1.out.new N3a)
    have I2 := Lib.hid (I2.out.new N3a)
    have R2 := Lib.hid (R2.out.new N3a)
    have N3 := Lib.hid (N2.out.trans N3a); clear N3a
    obtain rfl : 0 = n3 := by have := HZ.out; omega
    have R3 := Lib.hid r3; clear l3 r3
    go_wp2_with fail
    refine (equalInts_any _ _ 0 0 _ _ _ _ (by omega) (by omega) _ (R2.out.ints HZ.out) (R3.out.ints HZ.out)).mono ?_
    rw [decide_eq_true rfl]
    rintro e w4 ⟨rfl, N4a⟩
    have s4 := N4a.le
    have I1 := Lib.hid (I1.out.new N4a)
    have I2 := Lib.hid (I2.out.new N4a)
    have R2 := Lib.hid (R2.out.new N4a)
    have R3 := Lib.hid (R3.out.new N4a)
    have N4 := Lib.hid (N3.out.trans N4a); clear N4a
    go_wp2_with fail
    refine (equalInts_any _ _ 0 0 _ _ _ _ (by omega) (by omega) _ (R2.out.ints HZ.out) (R3.out.ints HZ.out)).mono ?_
    rw [decide_eq_true rfl]
    rintro e w5 ⟨rfl, N5a⟩
    have s5 := N5a.le
    have I1 := Lib.hid (I1.out.new N5a)
    have I2 := Lib.hid (I2.out.new N5a)
    have R2 := Lib.hid (R2.out.new N5a)
    have R3 := Lib.hid (R3.out.new N5a)
    have N5 := Lib.hid (N4.out.trans N5a); clear N5a
    go_wp2
    go_ret
    exact ⟨rfl, N5.out⟩
  · obtain ⟨nz, hnz⟩ : ∃ nz, (cleanA m1 zs ms x).length = nz := ⟨_, rfl⟩
    obtain ⟨nr, hnr⟩ : ∃ nr, (drA m1 zs ms).length = nr := ⟨_, rfl⟩
    have nz16 : nz ≤ 16 := by rw [← hnz]; exact cleanA_len
    have nr16 : nr ≤ 16 := by rw [← hnr]; exact drA_len
    have HOK := Lib.hid hok; have HZ := Lib.hid hnz; have HR := Lib.hid hnr
    have MOK := Lib.hid (cleanOk_iff.1 hok).2
    have LD : Hid (∀ k, ((drA m1 zs ms).drop k).length = nr - k) := Lib.hid (fun k => by rw [List.length_drop, hnr])
    have ST := Lib.hid (fun k u (hk : k < (drA m1 zs ms).length) (hu : (drA m1 zs ms).getD k 0 = ((u : Nat) : Int)) => clean_step MOK.out hk hu)
    have RT := Lib.hid (fun t (ht : t < (drA m1 zs ms).length) => drA_at MOK.out ht)
    clear hnz hnr hok
    go_wp2_with fail
    refine (CleanBox_ansI B1 B2 m1 d1 m2 d2 zs ms x (by omega) (by omega) _ I1.out I2.out).mono ?_
    rw [HOK.out]
    rintro e w2 ⟨A2, n2, c2, rfl, l2, r2, N2a⟩
    have s2 := N2a.le
    have I1 := Lib.hid (I1.out.new N2a)
    have I2 := Lib.hid (I2.out.new N2a)
    have N2 := Lib.hid (N1.out.trans N2a); clear N2a
    obtain rfl : nz = n2 := by have := HZ.out; omega
    have R2 := Lib.hid r2; clear l2 r2
    go_wp2_with fail
    refine (SCleanBox_ansI B1 B2 m1 d1 m2 d2 zs ms x (by omega) (by omega) _ I1.out I2.out).mono ?_
    rw [HOK.out]
    rintro e w3 ⟨A3, n3, c3, rfl, l3, r3, N3a⟩
    have s3 := N3a.le
    have I1 := Lib.hid (I1.out.new N3a)
    have I2 := Lib.hid (I2.out.new N3a)
    have R2 := Lib.hid (R2.out.new N3a)
    have N3 := Lib.hid (N2.out.trans N3a); clear N3a
    obtain rfl : nz = n3 := by have := HZ.out; omega
    have R3 := Lib.hid r3; clear l3 r3
    go_wp2_with fail
    refine (equalInts_any _ _ nz nz _ _ _ _ (by omega) (by omega) _ (R2.out.ints HZ.out) (R3.out.ints HZ.out)).mono ?_
    rw [decide_eq_true rfl]
    rintro e w4 ⟨rfl, N4a⟩
    have s4 := N4a.le
    have I1 := Lib.hid (I1.out.new N4a)
    have I2 := Lib.hid (I2.out.new N4a)
    have R2 := Lib.hid (R2.out.new N4a)
    have R3 := Lib.hid (R3.out.new N4a)
    have N4 := Lib.hid (N3.out.trans N4a); clear N4a
    go_wp2_with fail
    refine (DirtyRoots_ans B1 B2 m1 d1 m2 d2 zs ms (by omega) (by omega) _ I1.out I2.out).mono ?_
    rintro e w5 ⟨A5, n5, c5, rfl, l5, r5, N5a⟩
    have s5 := N5a.le
    have I1 := Lib.hid (I1.out.new N5a)
    have I2 := Lib.hid (I2.out.new N5a)
    have N5 := Lib.hid (N4.out.trans N5a); clear N5a
    obtain rfl : nr = n5 := by have := HR.out; omega
    have R5 := Lib.hid r5; clear l5 r5
    have NN := Lib.hid N5.out
    have T5 := Lib.hid (R5.out.ints HR.out)
    go_wp2
    go_loopw [10, 11] (fun v i wr => ∃ (k m : Nat) (Al : Option Addr) (cl : Nat), k + m = nr ∧ i = .int .i64 (m : Int) ∧ v = .slice Al m cl ∧ Hid (Ints wr Al m ((drA m1 zs ms).drop k)) ∧ Hid (New w5 wr)) (fun _ i _ => (intOf i).toNat)
    case atStart => exact ⟨0, nr, _, _, by omega, rfl, rfl, T5, Lib.hid (New.refl _)⟩
    case round =>
      obtain ⟨k, m, Al, cl, hkm, rfl, rfl, HI, HW⟩ := hrel
      have I3 := Lib.hid (I1.out.new HW.out)
      have m0 : (0 : Int) ≤ (m : Int) := by omega
      have mi : (m : Int) ≤ 16 := by omega
      cases m with
      | zero =>
        go_wp2
        go_ret
        exact ⟨rfl, NN.out.trans HW.out⟩
      | succ m =>
        have mz : (0 : Int) < ((m + 1 : Nat) : Int) := by omega
        have mb : (((m + 1 : Nat) : Int) == 0) = false := by simp; omega
        have hl : k < (drA m1 zs ms).length := by rw [HR.out]; omega
        obtain ⟨b', off', rfl, hb', hc'⟩ := HI.out.at_ (by omega)
        have g1 := hc' 0 (by omega)
        obtain ⟨u, hu, hum⟩ := RT.out k hl
        rw [show ((drA m1 zs ms).drop k).getD 0 0 = (u : Int) by rw [← hu]; simp [List.getD_eq_getElem?_getD], Nat.add_zero] at g1
        have SK := Lib.hid (ST.out k u hl hu)
        have LK := Lib.hid (LD.out (k + 1))
        clear hc' hb' hu hl
        go_wp2_with fail
        refine (CleanBox_ansI B1 _ m1 d1 (m + 1) cl zs ((drA m1 zs ms).drop k) (u : Int) (by omega) (by omega) _ I3.out HI.out).mono ?_
        rw [SK.out.1, SK.out.2]
        rintro e wd ⟨A8, n8, c8, rfl, l8, r8, N8⟩
        obtain rfl : m = n8 := by have := LK.out; omega
        have T8 := Lib.hid (r8.ints l8)
        have NV2 := Lib.hid (HW.out.trans N8)
        clear l8 r8 N8
        go_wp2
        go_roundw
        case rel => exact ⟨k + 1, m, A8, c8, by omega, by go_num, rfl, T8, NV2⟩
        case measure => simp [intOf]
end Go.Proofs.Ytkaagpfgpacfcaa
