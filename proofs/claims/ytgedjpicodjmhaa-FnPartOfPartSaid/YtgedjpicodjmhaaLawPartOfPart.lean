/- The law FnPartOfPart, walked: a part of a part is the part of the tree. Condition: the code can be read. -/
import Derived.Test.YtgedjpicodjmhaaDrawTt
import Derived.Test.YtgedjpicodjmhaaPartS
import Derived.Test.YtgedjpicodjmhaaPartW
import Derived.Test.YtgedjpicodjmhaaBoxQ
import Derived.Test.YtgedjpicodjmhaaTreeE
namespace Go.Proofs.Ytgedjpicodjmhaa
open Go.RowKit

set_option maxHeartbeats 4000000 in
theorem lawPartOfPart (A : Option Addr) (n c : Nat) (hn : n ≤ maxLen) (hnc : n ≤ c) (w : World) (hb : Bytes w A n) :
    Calls Try.prog 3 #[.slice A n c] w fun e w' => e = .returned (.bool true) ∧ New w w' := by
  have HB := Lib.hid hb; have HM := Lib.hid hn
  clear hb
  unfold maxLen at hn
  by_cases hbig : 1048576 < n
  · go_enter Try.func3, Try.ntmps3
    go_wp2
    go_ret
    exact ⟨rfl, by (repeat (first | exact New.refl _ | assumption | refine New.alloc ?_ _ | refine New.drew ?_ | refine New.drewN ?_ _ | refine New.setCell ?_ (by first | omega | (simp; omega) | (simp; done)) _ | refine New.trans ?_ (by assumption)))⟩
  have hm : (n : Int) ≤ 1048576 := by omega
  have hm0 : (0 : Int) ≤ (n : Int) := by omega
  go_enter Try.func3, Try.ntmps3
  go_wp2_with fail
  refine (DrawPartOf_any A n c HM.out hnc _ HB.out).mono ?_
  rintro e w1 ⟨B1, m1, d1, zs, x, rfl, I1, l1, kd, xb, N1a⟩
  have s1 := N1a.le
  have N1 := Lib.hid ((New.refl w).trans N1a); clear N1a
  replace I1 := Lib.hid I1
  by_cases hok : nodeOk m1 zs x = true
  · obtain ⟨hv, a, rfl, ha⟩ := nodeOk_iff.1 hok
    have HV := Lib.hid hv; have v1 := (vtB_iff.1 hv).1
    have a0 : (0 : Int) ≤ (a : Int) := by omega
    have a1 : (a : Int) < (m1 : Int) := by omega
    clear hok xb
    have HL := Lib.hid I1.out.len
    have OK : Hid (partOk m1 zs (a : Int) = true) := Lib.hid (nodeOk_iff.2 ⟨hv, a, rfl, ha⟩)
    have eb := en_bd (zs := zs) ha
    have VP := part_valid hv HL.out ha
    have LP := Lib.hid (show (partA m1 zs (a : Int)).length = (en zs m1 a - a) * 9 by rw [part_at hv ha]; exact partL_len HL.out (by omega))
    have PP := Lib.hid (fun k hk => part_part (k := k) hv HL.out ha hk)
    obtain ⟨M, hM⟩ : ∃ M, en zs m1 a - a = M := ⟨_, rfl⟩
    rw [hM] at VP LP PP
    have M16 : M ≤ 16 := by omega
    have M1 : (1 : Int) ≤ (M : Int) := by omega
    have M2 : (M : Int) ≤ 16 := by omega
    obtain ⟨q, hqM, hq⟩ : ∃ q : Nat, q < M ∧ (n : Int) % (M : Int) = (q : Int) := ⟨n % M, Nat.mod_lt _ (by omega), by rw [Int.natCast_emod]⟩
    have PQ := Lib.hid (PP.out q hqM)
    have OKq : Hid (partOk M (partA m1 zs (a : Int)) (q : Int) = true) := Lib.hid (nodeOk_iff.2 ⟨VP, q, rfl, hqM⟩)
    have OKs : Hid (partOk m1 zs ((a : Int) + (q : Int)) = true) := Lib.hid (nodeOk_iff.2 ⟨hv, a + q, by omega, by omega⟩)
    have ES : Hid (((a + q : Nat) : Int) = (a : Int) + (q : Int)) := Lib.hid (by omega)
    have q0 : (0 : Int) ≤ (q : Int) := by omega
    have q1 : (q : Int) < (M : Int) := by omega
    have LQ := Lib.hid (show ∃ m2, (partA m1 zs ((a : Int) + (q : Int))).length = m2 * 9 ∧ m2 ≤ 16 from (by
      have e := en_bd (zs := zs) (show a + q < m1 by omega)
      exact ⟨en zs m1 (a + q) - (a + q), by rw [← ES.out, part_at hv (by omega)]; exact partL_len HL.out (by omega), by omega⟩))
    replace PQ : Hid (partA M (partA m1 zs (a : Int)) (q : Int) = partA m1 zs ((a : Int) + (q : Int))) := Lib.hid (by rw [PQ.out, ES.out])
    obtain ⟨m2, hm2, hm16⟩ := LQ.out
    have LQ2 := Lib.hid hm2
    have LQ1 : Hid ((partA M (partA m1 zs (a : Int)) (q : Int)).length = m2 * 9) := Lib.hid (by rw [PQ.out]; exact hm2)
    clear hv hM eb PP VP LQ hm2 hqM
    go_wp2_with fail
    refine (PartOf_ansR B1 m1 d1 zs (a : Int) (by omega) kd _ I1.out).mono ?_
    rw [OK.out]
    rintro e w2 ⟨A2, n2, c2, rfl, l2, k2, r2, N2a⟩
    have s2 := N2a.le
    have I1 := Lib.hid (I1.out.new N2a)
    have N2 := Lib.hid (N1.out.trans N2a); clear N2a
    obtain rfl : M = n2 := by have := LP.out; omega
    have R2 := Lib.hid r2; clear l2 r2
    go_wp2_with fail
    refine (SPartOf_ansT B1 m1 d1 zs (a : Int) (by omega) kd _ I1.out).mono ?_
    rw [OK.out]
    rintro e w3 ⟨A3, n3, c3, rfl, l3, r3, N3a⟩
    have s3 := N3a.le
    have I1 := Lib.hid (I1.out.new N3a)
    have R2 := Lib.hid (R2.out.new N3a)
    have N3 := Lib.hid (N2.out.trans N3a); clear N3a
    obtain rfl : M = n3 := by have := LP.out; omega
    have R3 := Lib.hid r3; clear l3 r3
    go_wp2_with fail
    refine (equalBoxes_same _ _ M _ _ _ (by omega) _ (Sts.of_res R2.out LP.out) (Sts.of_res R3.out LP.out)).mono ?_
    rintro e w4 ⟨rfl, N4a⟩
    have s4 := N4a.le
    have I1 := Lib.hid (I1.out.new N4a)
    have R2 := Lib.hid (R2.out.new N4a)
    have R3 := Lib.hid (R3.out.new N4a)
    have N4 := Lib.hid (N3.out.trans N4a); clear N4a
    go_wp2_with fail
    refine (PartOf_ansT A2 M c2 (partA m1 zs (a : Int)) (q : Int) (by omega) k2 _ (Sts.of_res R2.out LP.out)).mono ?_
    rw [OKq.out]
    rintro e w5 ⟨A5, n5, c5, rfl, l5, r5, N5a⟩
    have s5 := N5a.le
    have I1 := Lib.hid (I1.out.new N5a)
    have R2 := Lib.hid (R2.out.new N5a)
    have R3 := Lib.hid (R3.out.new N5a)
    have N5 := Lib.hid (N4.out.trans N5a); clear N5a
    obtain rfl : m2 = n5 := by have := LQ1.out; omega
    have R5 := Lib.hid r5; clear l5 r5
    go_wp2_with fail
    refine (PartOf_ansT B1 m1 d1 zs ((a : Int) + (q : Int)) (by omega) kd _ I1.out).mono ?_
    rw [OKs.out]
    rintro e w6 ⟨A6, n6, c6, rfl, l6, r6, N6a⟩
    have s6 := N6a.le
    have I1 := Lib.hid (I1.out.new N6a)
    have R2 := Lib.hid (R2.out.new N6a)
    have R3 := Lib.hid (R3.out.new N6a)
    have R5 := Lib.hid (R5.out.new N6a)
    have N6 := Lib.hid (N5.out.trans N6a); clear N6a
    obtain rfl : m2 = n6 := by have := LQ2.out; omega
    have R6 := Lib.hid r6; clear l6 r6
    go_wp2_with fail
    refine (equalBoxes_same A5 A6 m2 c5 c6 (partA m1 zs ((a : Int) + (q : Int))) (by omega) _ (by have h := Sts.of_res R5.out LQ1.out; rw [PQ.out] at h; exact h) (Sts.of_res R6.out LQ2.out)).mono ?_
    rintro e w7 ⟨rfl, N7a⟩
    have s7 := N7a.le
    have I1 := Lib.hid (I1.out.new N7a)
    have R2 := Lib.hid (R2.out.new N7a)
    have R3 := Lib.hid (R3.out.new N7a)
    have R5 := Lib.hid (R5.out.new N7a)
    have R6 := Lib.hid (R6.out.new N7a)
    have N7 := Lib.hid (N6.out.trans N7a); clear N7a
    go_wp2
    go_ret
    exact ⟨rfl, N7.out⟩
  · have hok' : nodeOk m1 zs x = false := by simpa using hok
    clear hok
    have OK : Hid (partOk m1 zs x = false) := Lib.hid hok'
    have LP : Hid ((partA m1 zs x).length = 0 * 9) := Lib.hid (by unfold partA; rw [hok']; rfl)
    clear hok'
    go_wp2_with fail
    refine (PartOf_ansT B1 m1 d1 zs x (by omega) kd _ I1.out).mono ?_
    rw [OK.out]
    rintro e w2 ⟨A2, n2, c2, rfl, l2, r2, N2a⟩
    have s2 := N2a.le
    have I1 := Lib.hid (I1.out.new N2a)
    have N2 := Lib.hid (N1.out.trans N2a); clear N2a
    obtain rfl : 0 = n2 := by have := LP.out; omega
    have R2 := Lib.hid r2; clear l2 r2
    go_wp2_with fail
    refine (SPartOf_ansT B1 m1 d1 zs x (by omega) kd _ I1.out).mono ?_
    rw [OK.out]
    rintro e w3 ⟨A3, n3, c3, rfl, l3, r3, N3a⟩
    have s3 := N3a.le
    have I1 := Lib.hid (I1.out.new N3a)
    have R2 := Lib.hid (R2.out.new N3a)
    have N3 := Lib.hid (N2.out.trans N3a); clear N3a
    obtain rfl : 0 = n3 := by have := LP.out; omega
    have R3 := Lib.hid r3; clear l3 r3
    go_wp2_with fail
    refine (equalBoxes_same _ _ 0 _ _ _ (by omega) _ (Sts.of_res R2.out LP.out) (Sts.of_res R3.out LP.out)).mono ?_
    rintro e w4 ⟨rfl, N4a⟩
    have s4 := N4a.le
    have I1 := Lib.hid (I1.out.new N4a)
    have R2 := Lib.hid (R2.out.new N4a)
    have R3 := Lib.hid (R3.out.new N4a)
    have N4 := Lib.hid (N3.out.trans N4a); clear N4a
    go_wp2_with fail
    refine (equalBoxes_same _ _ 0 _ _ _ (by omega) _ (Sts.of_res R2.out LP.out) (Sts.of_res R3.out LP.out)).mono ?_
    rintro e w5 ⟨rfl, N5a⟩
    have s5 := N5a.le
    have I1 := Lib.hid (I1.out.new N5a)
    have R2 := Lib.hid (R2.out.new N5a)
    have R3 := Lib.hid (R3.out.new N5a)
    have N5 := Lib.hid (N4.out.trans N5a); clear N5a
    go_wp2
    go_ret
    exact ⟨rfl, N5.out⟩
end Go.Proofs.Ytgedjpicodjmhaa
