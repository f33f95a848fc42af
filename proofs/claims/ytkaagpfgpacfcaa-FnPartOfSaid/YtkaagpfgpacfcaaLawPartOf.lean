/- The law FnPartOf, walked: a part is a tree, as large as the box counts, and that of the first box is the whole tree. Condition: the code can be read. -/
import Derived.Test.YtkaagpfgpacfcaaDrawTt
import Derived.Test.YtkaagpfgpacfcaaPartS
import Derived.Test.YtkaagpfgpacfcaaPartV
import Derived.Test.YtkaagpfgpacfcaaBoxQ
import Derived.Test.YtkaagpfgpacfcaaTreeE
namespace Go.Proofs.Ytkaagpfgpacfcaa
open Go.RowKit

set_option maxHeartbeats 4000000 in
theorem lawPartOf (A : Option Addr) (n c : Nat) (hn : n ≤ maxLen) (hnc : n ≤ c) (w : World) (hb : Bytes w A n) :
    Calls Try.prog 10 #[.slice A n c] w fun e w' => e = .returned (.bool true) ∧ New w w' := by
  have HB := Lib.hid hb; have HM := Lib.hid hn
  clear hb
  unfold maxLen at hn
  by_cases hbig : 1048576 < n
  · go_enter Try.func10, Try.ntmps10
    go_wp2
    go_ret
    exact ⟨rfl, by (repeat (first | exact New.refl _ | assumption | refine New.alloc ?_ _ | refine New.drew ?_ | refine New.drewN ?_ _ | refine New.setCell ?_ (by first | omega | (simp; omega) | (simp; done)) _ | refine New.trans ?_ (by assumption)))⟩
  have hm : (n : Int) ≤ 1048576 := by omega
  have hm0 : (0 : Int) ≤ (n : Int) := by omega
  go_enter Try.func10, Try.ntmps10
  go_wp2_with fail
  refine (DrawPartOf_any A n c HM.out hnc _ HB.out).mono ?_
  rintro e w1 ⟨B1, m1, d1, zs, x, rfl, I1, l1, kd, xb, N1a⟩
  have s1 := N1a.le
  have N1 := Lib.hid ((New.refl w).trans N1a); clear N1a
  replace I1 := Lib.hid I1
  by_cases hok : nodeOk m1 zs x = true
  · obtain ⟨hv, a, rfl, ha⟩ := nodeOk_iff.1 hok
    have HV := Lib.hid hv; have v1 := (vtB_iff.1 hv).1
    have a0 : (0 : Int) ≤ (a : Int) := by omega
    have a1 : (a : Int) < (m1 : Int) := by omega
    clear hok xb
    have HL := Lib.hid I1.out.len
    have OK : Hid (partOk m1 zs (a : Int) = true) := Lib.hid (nodeOk_iff.2 ⟨hv, a, rfl, ha⟩)
    have OK0 : Hid (partOk m1 zs ((0 : Nat) : Int) = true) := Lib.hid (nodeOk_iff.2 ⟨hv, 0, rfl, by omega⟩)
    have eb := en_bd (zs := zs) ha
    have EA := Lib.hid (cntA_at hv ha)
    have VP := Lib.hid (part_valid hv HL.out ha)
    have PA := Lib.hid (part_all hv HL.out)
    have LP := Lib.hid (show (partA m1 zs (a : Int)).length = (en zs m1 a - a) * 9 by rw [part_at hv ha]; exact partL_len HL.out (by omega))
    obtain ⟨M, hM⟩ : ∃ M, en zs m1 a - a = M := ⟨_, rfl⟩
    have hE : (en zs m1 a : Int) - (a : Int) = (M : Int) := by omega
    rw [hM] at VP LP
    rw [hE] at EA
    have M16 : M ≤ 16 := by omega
    have M1 : (1 : Int) ≤ (M : Int) := by omega
    have M2 : (M : Int) ≤ 16 := by omega
    have LP0 : Hid ((partA m1 zs ((0 : Nat) : Int)).length = m1 * 9) := Lib.hid (by rw [PA.out]; exact HL.out)
    clear hv hM hE eb
    go_wp2_with fail
    refine (PartOf_ansT B1 m1 d1 zs (a : Int) (by omega) kd _ I1.out).mono ?_
    rw [OK.out]
    rintro e w2 ⟨A2, n2, c2, rfl, l2, r2, N2a⟩
    have s2 := N2a.le
    have I1 := Lib.hid (I1.out.new N2a)
    have N2 := Lib.hid (N1.out.trans N2a); clear N2a
    obtain rfl : M = n2 := by have := LP.out; omega
    have R2 := Lib.hid r2; clear l2 r2
    go_wp2_with fail
    refine (SPartOf_ansT B1 m1 d1 zs (a : Int) (by omega) kd _ I1.out).mono ?_
    rw [OK.out]
    rintro e w3 ⟨A3, n3, c3, rfl, l3, r3, N3a⟩
    have s3 := N3a.le
    have I1 := Lib.hid (I1.out.new N3a)
    have R2 := Lib.hid (R2.out.new N3a)
    have N3 := Lib.hid (N2.out.trans N3a); clear N3a
    obtain rfl : M = n3 := by have := LP.out; omega
    have R3 := Lib.hid r3; clear l3 r3
    go_wp2_with fail
    refine (equalBoxes_same _ _ M _ _ _ (by omega) _ (Sts.of_res R2.out LP.out) (Sts.of_res R3.out LP.out)).mono ?_
    rintro e w4 ⟨rfl, N4a⟩
    have s4 := N4a.le
    have I1 := Lib.hid (I1.out.new N4a)
    have R2 := Lib.hid (R2.out.new N4a)
    have R3 := Lib.hid (R3.out.new N4a)
    have N4 := Lib.hid (N3.out.trans N4a); clear N4a
    go_wp2_with fail
    refine (PartOf_ansT B1 m1 d1 zs ((0 : Nat) : Int) (by omega) kd _ I1.out).mono ?_
    rw [OK0.out]
    rintro e w5 ⟨A5, n5, c5, rfl, l5, r5, N5a⟩
    have s5 := N5a.le
    have I1 := Lib.hid (I1.out.new N5a)
    have R2 := Lib.hid (R2.out.new N5a)
    have R3 := Lib.hid (R3.out.new N5a)
    have N5 := Lib.hid (N4.out.trans N5a); clear N5a
    obtain rfl : m1 = n5 := by have := LP0.out; omega
    have R5 := Lib.hid r5; clear l5 r5
    go_wp2_with fail
    refine (ValidTree_any A2 M c2 (partA m1 zs (a : Int)) (by omega) _ (Sts.of_res R2.out LP.out)).mono ?_
    rw [VP.out]
    rintro e w6 ⟨rfl, N6a⟩
    have s6 := N6a.le
    have I1 := Lib.hid (I1.out.new N6a)
    have R2 := Lib.hid (R2.out.new N6a)
    have R3 := Lib.hid (R3.out.new N6a)
    have R5 := Lib.hid (R5.out.new N6a)
    have N6 := Lib.hid (N5.out.trans N6a); clear N6a
    go_wp2_with fail
    refine (CountIn_any B1 m1 d1 zs (a : Int) (by omega) _ I1.out).mono ?_
    rw [EA.out]
    rintro e w7 ⟨rfl, N7a⟩
    have s7 := N7a.le
    have I1 := Lib.hid (I1.out.new N7a)
    have R2 := Lib.hid (R2.out.new N7a)
    have R3 := Lib.hid (R3.out.new N7a)
    have R5 := Lib.hid (R5.out.new N7a)
    have N7 := Lib.hid (N6.out.trans N7a); clear N7a
    go_wp2_with fail
    refine (equalBoxes_same A5 B1 m1 c5 d1 zs (by omega) _ (by have h := Sts.of_res R5.out LP0.out; rw [PA.out] at h; exact h) I1.out).mono ?_
    rintro e w8 ⟨rfl, N8a⟩
    have s8 := N8a.le
    have I1 := Lib.hid (I1.out.new N8a)
    have R2 := Lib.hid (R2.out.new N8a)
    have R3 := Lib.hid (R3.out.new N8a)
    have R5 := Lib.hid (R5.out.new N8a)
    have N8 := Lib.hid (N7.out.trans N8a); clear N8a
    go_wp2
    go_ret
    exact ⟨rfl, N8.out⟩
  · have hok' : nodeOk m1 zs x = false := by simpa using hok
    clear hok
    have OK : Hid (partOk m1 zs x = false) := Lib.hid hok'
    have LP : Hid ((partA m1 zs x).length = 0 * 9) := Lib.hid (by unfold partA; rw [hok']; rfl)
    clear hok'
    go_wp2_with fail
    refine (PartOf_ansT B1 m1 d1 zs x (by omega) kd _ I1.out).mono ?_
    rw [OK.out]
    rintro e w2 ⟨A2, n2, c2, rfl, l2, r2, N2a⟩
    have s2 := N2a.le
    have I1 := Lib.hid (I1.out.new N2a)
    have N2 := Lib.hid (N1.out.trans N2a); clear N2a
    obtain rfl : 0 = n2 := by have := LP.out; omega
    have R2 := Lib.hid r2; clear l2 r2
    go_wp2_with fail
    refine (SPartOf_ansT B1 m1 d1 zs x (by omega) kd _ I1.out).mono ?_
    rw [OK.out]
    rintro e w3 ⟨A3, n3, c3, rfl, l3, r3, N3a⟩
    have s3 := N3a.le
    have I1 := Lib.hid (I1.out.new N3a)
    have R2 := Lib.hid (R2.out.new N3a)
    have N3 := Lib.hid (N2.out.trans N3a); clear N3a
    obtain rfl : 0 = n3 := by have := LP.out; omega
    have R3 := Lib.hid r3; clear l3 r3
    go_wp2_with fail
    refine (equalBoxes_same _ _ 0 _ _ _ (by omega) _ (Sts.of_res R2.out LP.out) (Sts.of_res R3.out LP.out)).mono ?_
    rintro e w4 ⟨rfl, N4a⟩
    have s4 := N4a.le
    have I1 := Lib.hid (I1.out.new N4a)
    have R2 := Lib.hid (R2.out.new N4a)
    have R3 := Lib.hid (R3.out.new N4a)
    have N4 := Lib.hid (N3.out.trans N4a); clear N4a
    go_wp2_with fail
    refine (equalBoxes_same _ _ 0 _ _ _ (by omega) _ (Sts.of_res R2.out LP.out) (Sts.of_res R3.out LP.out)).mono ?_
    rintro e w5 ⟨rfl, N5a⟩
    have s5 := N5a.le
    have I1 := Lib.hid (I1.out.new N5a)
    have R2 := Lib.hid (R2.out.new N5a)
    have R3 := Lib.hid (R3.out.new N5a)
    have N5 := Lib.hid (N4.out.trans N5a); clear N5a
    go_wp2
    go_ret
    exact ⟨rfl, N5.out⟩
end Go.Proofs.Ytkaagpfgpacfcaa
