/- The law FnSpillingNone, walked: if the tree fits on the screen, no box directly in the first one spills. Condition: the code can be read. -/
import Derived.Test.YtokcbfnmnccacaaGreatYB
import Derived.Test.YtokcbfnmnccacaaGreatSpilI
import Derived.Test.YtokcbfnmnccacaaGreatSpP
import Derived.Test.YtokcbfnmnccacaaGreatZF
import Derived.Test.YtokcbfnmnccacaaGreatZI
namespace Go.Proofs.YtokcbfnmnccacaaGreat
open Go.RowKit

set_option maxHeartbeats 4000000 in
theorem lawSpillingNone (A : Option Addr) (n c : Nat) (hn : n ≤ maxLen) (hnc : n ≤ c) (w : World) (hb : Bytes w A n) :
    Calls Tryz.prog 4 #[.slice A n c] w fun e w' => e = .returned (.bool true) ∧ New w w' := by
  have HB := Lib.hid hb; have HM := Lib.hid hn
  clear hb
  unfold maxLen at hn
  by_cases hbig : 1048576 < n
  · go_enter Tryz.func4, Tryz.ntmps4
    go_wp2
    go_ret
    exact ⟨rfl, by (repeat (first | exact New.refl _ | assumption | refine New.alloc ?_ _ | refine New.drew ?_ | refine New.drewN ?_ _ | refine New.setCell ?_ (by first | omega | (simp; omega) | (simp; done)) _ | refine New.trans ?_ (by assumption)))⟩
  have hm : (n : Int) ≤ 1048576 := by omega
  have hm0 : (0 : Int) ≤ (n : Int) := by omega
  go_enter Tryz.func4, Tryz.ntmps4
  go_wp2_with fail
  refine (DrawSpilling_any A n c HM.out hnc _ HB.out).mono ?_
  rintro e w1 ⟨B1, m1, d1, zs, W, H, rfl, I1, l1, kd, Wb, Hb, N1a⟩
  have s1 := N1a.le
  have N1 := Lib.hid ((New.refl w).trans N1a); clear N1a
  replace I1 := Lib.hid I1
  obtain ⟨nz, LZ⟩ : ∃ nz, Hid ((spA m1 zs W H).length = nz) := ⟨_, Lib.hid rfl⟩
  have nz16 : nz ≤ 16 := by have := LZ.out; have := spA_len (n := m1) (zs := zs) (W := W) (H := H); omega
  go_wp2_with fail
  refine (Spilling_ans B1 m1 d1 zs W H (by omega) _ I1.out).mono ?_
  rintro e w2 ⟨A2, n2, c2, rfl, l2, r2, N2a⟩
  have s2 := N2a.le
  have I1 := Lib.hid (I1.out.new N2a)
  have N2 := Lib.hid (N1.out.trans N2a); clear N2a
  obtain rfl : nz = n2 := by have := LZ.out; omega
  have R2 := Lib.hid r2; clear l2 r2
  go_wp2_with fail
  refine (SSpilling_ans B1 m1 d1 zs W H (by omega) _ I1.out).mono ?_
  rintro e w3 ⟨A3, n3, c3, rfl, l3, r3, N3a⟩
  have s3 := N3a.le
  have I1 := Lib.hid (I1.out.new N3a)
  have R2 := Lib.hid (R2.out.new N3a)
  have N3 := Lib.hid (N2.out.trans N3a); clear N3a
  obtain rfl : nz = n3 := by have := LZ.out; omega
  have R3 := Lib.hid r3; clear l3 r3
  go_wp2_with fail
  refine (equalInts_any _ _ nz nz _ _ _ _ (by omega) (by omega) _ (R2.out.ints LZ.out) (R3.out.ints LZ.out)).mono ?_
  rw [decide_eq_true rfl]
  rintro e w4 ⟨rfl, N4a⟩
  have s4 := N4a.le
  have I1 := Lib.hid (I1.out.new N4a)
  have R2 := Lib.hid (R2.out.new N4a)
  have R3 := Lib.hid (R3.out.new N4a)
  have N4 := Lib.hid (N3.out.trans N4a); clear N4a
  obtain ⟨T, HT⟩ : ∃ T, Hid (fitB m1 zs W H = T) := ⟨_, Lib.hid rfl⟩
  go_wp2_with fail
  refine (FitsIn_any B1 m1 d1 zs W H (by omega) _ I1.out).mono ?_
  rw [HT.out]
  rintro e w5 ⟨rfl, N5a⟩
  have s5 := N5a.le
  have I1 := Lib.hid (I1.out.new N5a)
  have R2 := Lib.hid (R2.out.new N5a)
  have R3 := Lib.hid (R3.out.new N5a)
  have N5 := Lib.hid (N4.out.trans N5a); clear N5a
  cases T
  · skip
    go_wp2_with fail
    refine (SSpilling_ans B1 m1 d1 zs W H (by omega) _ I1.out).mono ?_
    rintro e w6 ⟨A6, n6, c6, rfl, l6, r6, N6a⟩
    have s6 := N6a.le
    have I1 := Lib.hid (I1.out.new N6a)
    have R2 := Lib.hid (R2.out.new N6a)
    have R3 := Lib.hid (R3.out.new N6a)
    have N6 := Lib.hid (N5.out.trans N6a); clear N6a
    obtain rfl : nz = n6 := by have := LZ.out; omega
    have R6 := Lib.hid r6; clear l6 r6
    go_wp2_with fail
    refine (equalInts_any _ _ nz nz _ _ _ _ (by omega) (by omega) _ (R2.out.ints LZ.out) (R6.out.ints LZ.out)).mono ?_
    rw [decide_eq_true rfl]
    rintro e w7 ⟨rfl, N7a⟩
    have s7 := N7a.le
    have I1 := Lib.hid (I1.out.new N7a)
    have R2 := Lib.hid (R2.out.new N7a)
    have R3 := Lib.hid (R3.out.new N7a)
    have R6 := Lib.hid (R6.out.new N7a)
    have N7 := Lib.hid (N6.out.trans N7a); clear N7a
    go_wp2
    go_ret
    exact ⟨rfl, N7.out⟩
  · have SN := Lib.hid (fun j hj => sp_none (j := j) HT.out hj)
    have hv : vtB m1 zs = true := by have h := HT.out; unfold fitB at h; simp only [Bool.and_eq_true] at h; exact h.1.1
    have v1 := (vtB_iff.1 hv).1
    have KE := Lib.hid (kidsA_at hv (show 0 < m1 by omega))
    have k8 := kids_le (a := 0) hv
    obtain ⟨nk, hnk⟩ : ∃ nk, (kidL zs m1 0).length = nk := ⟨_, rfl⟩
    rw [hnk] at k8
    have LK : Hid ((kidsA m1 zs ((0 : Nat) : Int)).length = nk) := Lib.hid (by rw [KE.out, List.length_map]; exact hnk)
    have HK := Lib.hid hnk
    have nki : (0 : Int) ≤ (nk : Int) := by omega
    have nk8 : (nk : Int) ≤ 8 := by omega
    clear hv hnk
    go_wp2_with fail
    refine (KidsOf_ans B1 m1 d1 zs ((0 : Nat) : Int) (by omega) _ I1.out).mono ?_
    rintro e w6 ⟨A6, n6, c6, rfl, l6, r6, N6a⟩
    have s6 := N6a.le
    have I1 := Lib.hid (I1.out.new N6a)
    have R2 := Lib.hid (R2.out.new N6a)
    have R3 := Lib.hid (R3.out.new N6a)
    have N6 := Lib.hid (N5.out.trans N6a); clear N6a
    obtain rfl : nk = n6 := by have := LK.out; omega
    have R6 := Lib.hid r6; clear l6 r6
    have NN := Lib.hid N6.out
    go_wp2
    go_loopw [8] (fun i wr => ∃ q : Nat, q ≤ nk ∧ i = .int .i64 q ∧ wr = w6) (fun i _ => nk - (intOf i).toNat)
    case atStart => exact ⟨0, Nat.zero_le _, rfl, rfl⟩
    case round =>
      obtain ⟨q, hq, rfl, rfl⟩ := hrel
      have q0 : (0 : Int) ≤ (q : Int) := by omega
      by_cases hlt : q < nk
      · have qi : (q : Int) < (nk : Int) := by omega
        obtain ⟨b2, off2, rfl, hb2, hc2⟩ := (R6.out.ints LK.out).at_ (by omega)
        have g1 := hc2 q hlt
        rw [KE.out, kid_at] at g1
        have hu := kid_get (show q < (kidL zs m1 0).length by rw [HK.out]; exact hlt)
        have hin := Lib.hid (SN.out _ hu)
        generalize (kidL zs m1 0).getD q 0 = u at *
        clear hc2 hu
        go_wp2_with (go_at_call 15; refine (isInL_any _ nz _ u _ (by omega) _ (R2.out.ints LZ.out)).mono ?_; rw [hin.out]; rintro e w' ⟨rfl, rfl⟩)
        go_roundw
        case rel => exact ⟨q + 1, by omega, by go_num, trivial⟩
        case measure => simp [intOf]; omega
      · go_wp2
        go_ret
        exact ⟨rfl, NN.out⟩
end Go.Proofs.YtokcbfnmnccacaaGreat
