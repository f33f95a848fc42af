/- The law FnPartOfSize, walked: the boxes of a part have the sizes that they have in the tree. Condition: the code can be read. -/
import Derived.Test.YtobnjagmakhgpaaYB
import Derived.Test.YtobnjagmakhgpaaPartS
import Derived.Test.YtobnjagmakhgpaaPartV
import Derived.Test.YtobnjagmakhgpaaPartN
import Derived.Test.YtobnjagmakhgpaaBoxQ
import Derived.Test.YtobnjagmakhgpaaZF
import Derived.Test.YtobnjagmakhgpaaZI
namespace Go.Proofs.Ytobnjagmakhgpaa
open Go.RowKit

set_option maxHeartbeats 4000000 in
theorem lawPartOfSize (A : Option Addr) (n c : Nat) (hn : n ≤ maxLen) (hnc : n ≤ c) (w : World) (hb : Bytes w A n) :
    Calls Try.prog 4 #[.slice A n c] w fun e w' => e = .returned (.bool true) ∧ New w w' := by
  have HB := Lib.hid hb; have HM := Lib.hid hn
  clear hb
  unfold maxLen at hn
  by_cases hbig : 1048576 < n
  · go_enter Try.func4, Try.ntmps4
    go_wp2
    go_ret
    exact ⟨rfl, by (repeat (first | exact New.refl _ | assumption | refine New.alloc ?_ _ | refine New.drew ?_ | refine New.drewN ?_ _ | refine New.setCell ?_ (by first | omega | (simp; omega) | (simp; done)) _ | refine New.trans ?_ (by assumption)))⟩
  have hm : (n : Int) ≤ 1048576 := by omega
  have hm0 : (0 : Int) ≤ (n : Int) := by omega
  go_enter Try.func4, Try.ntmps4
  go_wp2_with fail
  refine (DrawPartOf_any A n c HM.out hnc _ HB.out).mono ?_
  rintro e w1 ⟨B1, m1, d1, zs, x, rfl, I1, l1, kd, xb, N1a⟩
  have s1 := N1a.le
  have N1 := Lib.hid ((New.refl w).trans N1a); clear N1a
  replace I1 := Lib.hid I1
  by_cases hok : nodeOk m1 zs x = true
  · obtain ⟨hv, a, rfl, ha⟩ := nodeOk_iff.1 hok
    have HV := Lib.hid hv; have v1 := (vtB_iff.1 hv).1
    have a0 : (0 : Int) ≤ (a : Int) := by omega
    have a1 : (a : Int) < (m1 : Int) := by omega
    clear hok xb
    have HL := Lib.hid I1.out.len
    have OK : Hid (partOk m1 zs (a : Int) = true) := Lib.hid (nodeOk_iff.2 ⟨hv, a, rfl, ha⟩)
    have eb := en_bd (zs := zs) ha
    have VP := part_valid hv HL.out ha
    have LP := Lib.hid (show (partA m1 zs (a : Int)).length = (en zs m1 a - a) * 9 by rw [part_at hv ha]; exact partL_len HL.out (by omega))
    have SH : Shift zs (partA m1 zs (a : Int)) a (en zs m1 a - a) := by rw [part_at hv ha]; exact part_shift hv HL.out ha
    have SN := shift_nat SH hv VP ha rfl
    obtain ⟨M, hM⟩ : ∃ M, en zs m1 a - a = M := ⟨_, rfl⟩
    rw [hM] at VP LP SN
    have M16 : M ≤ 16 := by omega
    have aM : a + M ≤ m1 := by omega
    have M1 : (1 : Int) ≤ (M : Int) := by omega
    have M2 : (M : Int) ≤ 16 := by omega
    have a16 : (a : Int) ≤ 16 := by omega
    obtain ⟨ys, hys⟩ : ∃ ys, partA m1 zs (a : Int) = ys := ⟨_, rfl⟩
    have PY := Lib.hid hys
    rw [hys] at VP LP SN
    have CN := Lib.hid (fun j (hj : j < M) => (show natW M ys (j : Int) = natW m1 zs ((a : Int) + (j : Int)) ∧ natH M ys (j : Int) = natH m1 zs ((a : Int) + (j : Int)) ∧ nodeOk M ys (j : Int) = true ∧ nodeOk m1 zs ((a : Int) + (j : Int)) = true by
      have e : (a : Int) + (j : Int) = ((a + j : Nat) : Int) := by omega
      rw [e, natW_at VP hj, natH_at VP hj, natW_at hv (show a + j < m1 by omega), natH_at hv (show a + j < m1 by omega), SN j hj]
      exact ⟨rfl, rfl, nodeOk_iff.2 ⟨VP, j, rfl, hj⟩, nodeOk_iff.2 ⟨hv, a + j, rfl, by omega⟩⟩))
    clear hv hM eb SH SN VP hys
    go_wp2_with fail
    refine (PartOf_ansT B1 m1 d1 zs (a : Int) (by omega) kd _ I1.out).mono ?_
    rw [OK.out, PY.out]
    rintro e w2 ⟨A2, n2, c2, rfl, l2, r2, N2a⟩
    have s2 := N2a.le
    have I1 := Lib.hid (I1.out.new N2a)
    have N2 := Lib.hid (N1.out.trans N2a); clear N2a
    obtain rfl : M = n2 := by have := LP.out; omega
    have R2 := Lib.hid r2; clear l2 r2
    go_wp2_with fail
    refine (SPartOf_ansT B1 m1 d1 zs (a : Int) (by omega) kd _ I1.out).mono ?_
    rw [OK.out, PY.out]
    rintro e w3 ⟨A3, n3, c3, rfl, l3, r3, N3a⟩
    have s3 := N3a.le
    have I1 := Lib.hid (I1.out.new N3a)
    have R2 := Lib.hid (R2.out.new N3a)
    have N3 := Lib.hid (N2.out.trans N3a); clear N3a
    obtain rfl : M = n3 := by have := LP.out; omega
    have R3 := Lib.hid r3; clear l3 r3
    go_wp2_with fail
    refine (equalBoxes_same _ _ M _ _ _ (by omega) _ (Sts.of_res R2.out LP.out) (Sts.of_res R3.out LP.out)).mono ?_
    rintro e w4 ⟨rfl, N4a⟩
    have s4 := N4a.le
    have I1 := Lib.hid (I1.out.new N4a)
    have R2 := Lib.hid (R2.out.new N4a)
    have R3 := Lib.hid (R3.out.new N4a)
    have N4 := Lib.hid (N3.out.trans N4a); clear N4a
    have NN := Lib.hid N4.out
    go_wp2
    go_loopw [9] (fun i wr => ∃ j : Nat, j ≤ M ∧ i = .int .i64 j ∧ Hid (New w4 wr)) (fun i _ => M - (intOf i).toNat)
    case atStart => exact ⟨0, Nat.zero_le _, rfl, Lib.hid (New.refl _)⟩
    case round =>
      obtain ⟨j, hj, rfl, HW⟩ := hrel
      have j0 : (0 : Int) ≤ (j : Int) := by omega
      by_cases hlt : j < M
      · have j1 : (j : Int) < (M : Int) := by omega
        obtain ⟨e1, e2, e3, e4⟩ := CN.out j hlt
        have C1 := NaturalSize_any A2 M c2 ys (j : Int) (by omega) wr ((Sts.of_res R2.out LP.out).new HW.out)
        have C2 := Lib.hid (fun V (hV : New wr V) => NaturalSize_any B1 m1 d1 zs ((a : Int) + (j : Int)) (by omega) V (I1.out.new (HW.out.trans hV)))
        rw [e1, e2, e3] at C1
        rw [e4] at C2
        have C1 := Lib.hid C1
        clear e1 e2 e3 e4
        generalize natW m1 zs ((a : Int) + (j : Int)) = p at *
        generalize natH m1 zs ((a : Int) + (j : Int)) = q at *
        go_wp2_with fail
        refine C1.out.mono ?_
        rintro e wp ⟨rfl, Np⟩
        have Np := Lib.hid Np
        go_wp2_with fail
        refine (C2.out _ Np.out).mono ?_
        rintro e wq ⟨rfl, Nq⟩
        have Nq := Lib.hid ((HW.out.trans Np.out).trans Nq)
        go_wp2
        go_roundw
        case rel => exact ⟨j + 1, hlt, by go_num, Nq⟩
        case measure => simp [intOf]; omega
      · obtain rfl : M = j := by omega
        go_wp2
        go_ret
        exact ⟨rfl, NN.out.trans HW.out⟩
  · have hok' : nodeOk m1 zs x = false := by simpa using hok
    clear hok
    have OK : Hid (partOk m1 zs x = false) := Lib.hid hok'
    have LP : Hid ((partA m1 zs x).length = 0 * 9) := Lib.hid (by unfold partA; rw [hok']; rfl)
    clear hok'
    go_wp2_with fail
    refine (PartOf_ansT B1 m1 d1 zs x (by omega) kd _ I1.out).mono ?_
    rw [OK.out]
    rintro e w2 ⟨A2, n2, c2, rfl, l2, r2, N2a⟩
    have s2 := N2a.le
    have I1 := Lib.hid (I1.out.new N2a)
    have N2 := Lib.hid (N1.out.trans N2a); clear N2a
    obtain rfl : 0 = n2 := by have := LP.out; omega
    have R2 := Lib.hid r2; clear l2 r2
    go_wp2_with fail
    refine (SPartOf_ansT B1 m1 d1 zs x (by omega) kd _ I1.out).mono ?_
    rw [OK.out]
    rintro e w3 ⟨A3, n3, c3, rfl, l3, r3, N3a⟩
    have s3 := N3a.le
    have I1 := Lib.hid (I1.out.new N3a)
    have R2 := Lib.hid (R2.out.new N3a)
    have N3 := Lib.hid (N2.out.trans N3a); clear N3a
    obtain rfl : 0 = n3 := by have := LP.out; omega
    have R3 := Lib.hid r3; clear l3 r3
    go_wp2_with fail
    refine (equalBoxes_same _ _ 0 _ _ _ (by omega) _ (Sts.of_res R2.out LP.out) (Sts.of_res R3.out LP.out)).mono ?_
    rintro e w4 ⟨rfl, N4a⟩
    have s4 := N4a.le
    have I1 := Lib.hid (I1.out.new N4a)
    have R2 := Lib.hid (R2.out.new N4a)
    have R3 := Lib.hid (R3.out.new N4a)
    have N4 := Lib.hid (N3.out.trans N4a); clear N4a
    go_wp2_with fail
    refine (equalBoxes_same _ _ 0 _ _ _ (by omega) _ (Sts.of_res R2.out LP.out) (Sts.of_res R3.out LP.out)).mono ?_
    rintro e w5 ⟨rfl, N5a⟩
    have s5 := N5a.le
    have I1 := Lib.hid (I1.out.new N5a)
    have R2 := Lib.hid (R2.out.new N5a)
    have R3 := Lib.hid (R3.out.new N5a)
    have N5 := Lib.hid (N4.out.trans N5a); clear N5a
    go_wp2
    go_ret
    exact ⟨rfl, N5.out⟩
end Go.Proofs.Ytobnjagmakhgpaa
