/- The law FnAddBoxLeaf, walked: the box that takes one more is no leaf, has room and is not too deep. Condition: the code can be read. -/
import Derived.Test.YtgedjpicodjmhaaDrawEd
import Derived.Test.YtgedjpicodjmhaaAddV
import Derived.Test.YtgedjpicodjmhaaBoxQ
import Derived.Test.YtgedjpicodjmhaaTreeE
namespace Go.Proofs.Ytgedjpicodjmhaa
open Go.RowKit

set_option maxHeartbeats 4000000 in
theorem lawAddBoxLeaf (A : Option Addr) (n c : Nat) (hn : n ≤ maxLen) (hnc : n ≤ c) (w : World) (hb : Bytes w A n) :
    Calls Try.prog 6 #[.slice A n c] w fun e w' => e = .returned (.bool true) ∧ New w w' := by
  have HB := Lib.hid hb; have HM := Lib.hid hn
  clear hb
  unfold maxLen at hn
  by_cases hbig : 1048576 < n
  · go_enter Try.func6, Try.ntmps6
    go_wp2
    go_ret
    exact ⟨rfl, by (repeat (first | exact New.refl _ | assumption | refine New.alloc ?_ _ | refine New.drew ?_ | refine New.drewN ?_ _ | refine New.setCell ?_ (by first | omega | (simp; omega) | (simp; done)) _ | refine New.trans ?_ (by assumption)))⟩
  have hm : (n : Int) ≤ 1048576 := by omega
  have hm0 : (0 : Int) ≤ (n : Int) := by omega
  go_enter Try.func6, Try.ntmps6
  go_wp2_with fail
  refine (DrawAddBox_any A n c HM.out hnc _ HB.out).mono ?_
  rintro e w1 ⟨B1, m1, d1, zs, x, y0, y1, y2, y3, y4, y5, y6, y7, y8, rfl, I1, l1, kd, xb, N1a⟩
  have s1 := N1a.le
  have N1 := Lib.hid ((New.refl w).trans N1a); clear N1a
  replace I1 := I1 _ (Chg.refl _ _ _)
  have HL := Lib.hid I1.len
  have RB := Lib.hid (Row.oneBox w1 y0 y1 y2 y3 y4 y5 y6 y7 y8 36)
  have sb := RB.out.lt
  replace I1 := Lib.hid (I1.new ((New.refl _).alloc (.cells #[.int .i64 y0, .int .i64 y1, .int .i64 y2, .int .i64 y3, .int .i64 y4, .int .i64 y5, .int .i64 y6, .int .i64 y7, .int .i64 y8] 36)))
  cases hso : addOk m1 zs x [y1, y2, y3, y4, y5, y6, y7, y8]
  · have OK := Lib.hid hso
    have LP : Hid ((addA m1 zs x [y1, y2, y3, y4, y5, y6, y7, y8]).length = 0 * 9) := Lib.hid (by unfold addA; rw [hso]; rfl)
    clear hso
    have bx0 := RB.out.c 0 (by simp)
    have bx1 := RB.out.c 1 (by simp)
    have bx2 := RB.out.c 2 (by simp)
    have bx3 := RB.out.c 3 (by simp)
    have bx4 := RB.out.c 4 (by simp)
    have bx5 := RB.out.c 5 (by simp)
    have bx6 := RB.out.c 6 (by simp)
    have bx7 := RB.out.c 7 (by simp)
    have bx8 := RB.out.c 8 (by simp)
    simp only [List.getD_cons_zero, List.getD_cons_succ] at bx0 bx1 bx2 bx3 bx4 bx5 bx6 bx7 bx8
    go_wp2_with fail
    refine (AddBox_ansT B1 m1 d1 zs x y0 y1 y2 y3 y4 y5 y6 y7 y8 (by omega) _ I1.out).mono ?_
    rw [OK.out]
    rintro e w2 ⟨A2, n2, c2, rfl, l2, r2, N2a⟩
    have s2 := N2a.le
    have I1 := Lib.hid (I1.out.new N2a)
    have RB := Lib.hid (RB.out.new N2a)
    have N2 := Lib.hid ((N1.out.alloc (.cells #[.int .i64 y0, .int .i64 y1, .int .i64 y2, .int .i64 y3, .int .i64 y4, .int .i64 y5, .int .i64 y6, .int .i64 y7, .int .i64 y8] 36)).trans N2a); clear N2a
    obtain rfl : 0 = n2 := by have := LP.out; omega
    have R2 := Lib.hid r2; clear l2 r2
    clear bx0 bx1 bx2 bx3 bx4 bx5 bx6 bx7 bx8
    have bx0 := RB.out.c 0 (by simp)
    have bx1 := RB.out.c 1 (by simp)
    have bx2 := RB.out.c 2 (by simp)
    have bx3 := RB.out.c 3 (by simp)
    have bx4 := RB.out.c 4 (by simp)
    have bx5 := RB.out.c 5 (by simp)
    have bx6 := RB.out.c 6 (by simp)
    have bx7 := RB.out.c 7 (by simp)
    have bx8 := RB.out.c 8 (by simp)
    simp only [List.getD_cons_zero, List.getD_cons_succ] at bx0 bx1 bx2 bx3 bx4 bx5 bx6 bx7 bx8
    go_wp2_with fail
    refine (SAddBox_ansT B1 m1 d1 zs x y0 y1 y2 y3 y4 y5 y6 y7 y8 (by omega) kd _ I1.out).mono ?_
    rw [OK.out]
    rintro e w3 ⟨A3, n3, c3, rfl, l3, r3, N3a⟩
    have s3 := N3a.le
    have I1 := Lib.hid (I1.out.new N3a)
    have RB := Lib.hid (RB.out.new N3a)
    have R2 := Lib.hid (R2.out.new N3a)
    have N3 := Lib.hid (N2.out.trans N3a); clear N3a
    obtain rfl : 0 = n3 := by have := LP.out; omega
    have R3 := Lib.hid r3; clear l3 r3
    clear bx0 bx1 bx2 bx3 bx4 bx5 bx6 bx7 bx8
    go_wp2_with fail
    refine (equalBoxes_same _ _ 0 _ _ _ (by omega) _ (Sts.of_res R2.out LP.out) (Sts.of_res R3.out LP.out)).mono ?_
    rintro e w4 ⟨rfl, N4a⟩
    have s4 := N4a.le
    have I1 := Lib.hid (I1.out.new N4a)
    have RB := Lib.hid (RB.out.new N4a)
    have R2 := Lib.hid (R2.out.new N4a)
    have R3 := Lib.hid (R3.out.new N4a)
    have N4 := Lib.hid (N3.out.trans N4a); clear N4a
    go_wp2_with fail
    refine (equalBoxes_same _ _ 0 _ _ _ (by omega) _ (Sts.of_res R2.out LP.out) (Sts.of_res R3.out LP.out)).mono ?_
    rintro e w5 ⟨rfl, N5a⟩
    have s5 := N5a.le
    have I1 := Lib.hid (I1.out.new N5a)
    have RB := Lib.hid (RB.out.new N5a)
    have R2 := Lib.hid (R2.out.new N5a)
    have R3 := Lib.hid (R3.out.new N5a)
    have N5 := Lib.hid (N4.out.trans N5a); clear N5a
    go_wp2
    go_ret
    exact ⟨by first | rfl | simp, N5.out⟩
  · have OK := Lib.hid hso
    have hn2 := hso
    unfold addOk at hn2
    rw [Bool.and_eq_true] at hn2
    obtain ⟨hv, a, rfl, ha⟩ := nodeOk_iff.1 hn2.1
    have m16 := (vtB_iff.1 hn2.2).1.2
    obtain ⟨tk, tl, td⟩ := add_takes hso HL.out
    have KL : Hid (kidsA m1 zs (a : Int) = (kidL zs m1 a).map Int.ofNat) := Lib.hid (by unfold kidsA; rw [if_pos hn2.1, Int.toNat_natCast])
    have DL : Hid (depA m1 zs (a : Int) = (dep zs a : Int)) := Lib.hid (by unfold depA; rw [if_pos hn2.1, Int.toNat_natCast])
    obtain ⟨M, hM⟩ : ∃ M, m1 + 1 = M := ⟨_, rfl⟩
    have LP : Hid ((addA m1 zs (a : Int) [y1, y2, y3, y4, y5, y6, y7, y8]).length = M * 9) := Lib.hid (by rw [← hM]; exact addA_mul HL.out _ _ rfl hso)
    have M16 : M ≤ 16 := by omega
    have TK := Lib.hid tk; have TL := Lib.hid tl; have TD := Lib.hid td
    have a0 : (0 : Int) ≤ (a : Int) := by omega
    have a1 : (a : Int) < (m1 : Int) := by omega
    have da1 : decide (m1 ≤ a) = false := decide_eq_false (by omega)
    have da2 : decide ((m1 : Int) ≤ (a : Int)) = false := decide_eq_false (by omega)
    have da3 : decide ((a : Int) < 0) = false := decide_eq_false (by omega)
    clear hso hn2 hv xb tk tl td hM
    have bx0 := RB.out.c 0 (by simp)
    have bx1 := RB.out.c 1 (by simp)
    have bx2 := RB.out.c 2 (by simp)
    have bx3 := RB.out.c 3 (by simp)
    have bx4 := RB.out.c 4 (by simp)
    have bx5 := RB.out.c 5 (by simp)
    have bx6 := RB.out.c 6 (by simp)
    have bx7 := RB.out.c 7 (by simp)
    have bx8 := RB.out.c 8 (by simp)
    simp only [List.getD_cons_zero, List.getD_cons_succ] at bx0 bx1 bx2 bx3 bx4 bx5 bx6 bx7 bx8
    go_wp2_with fail
    refine (AddBox_ansT B1 m1 d1 zs (a : Int) y0 y1 y2 y3 y4 y5 y6 y7 y8 (by omega) _ I1.out).mono ?_
    rw [OK.out]
    rintro e w2 ⟨A2, n2, c2, rfl, l2, r2, N2a⟩
    have s2 := N2a.le
    have I1 := Lib.hid (I1.out.new N2a)
    have RB := Lib.hid (RB.out.new N2a)
    have N2 := Lib.hid ((N1.out.alloc (.cells #[.int .i64 y0, .int .i64 y1, .int .i64 y2, .int .i64 y3, .int .i64 y4, .int .i64 y5, .int .i64 y6, .int .i64 y7, .int .i64 y8] 36)).trans N2a); clear N2a
    obtain rfl : M = n2 := by have := LP.out; omega
    have R2 := Lib.hid r2; clear l2 r2
    clear bx0 bx1 bx2 bx3 bx4 bx5 bx6 bx7 bx8
    have bx0 := RB.out.c 0 (by simp)
    have bx1 := RB.out.c 1 (by simp)
    have bx2 := RB.out.c 2 (by simp)
    have bx3 := RB.out.c 3 (by simp)
    have bx4 := RB.out.c 4 (by simp)
    have bx5 := RB.out.c 5 (by simp)
    have bx6 := RB.out.c 6 (by simp)
    have bx7 := RB.out.c 7 (by simp)
    have bx8 := RB.out.c 8 (by simp)
    simp only [List.getD_cons_zero, List.getD_cons_succ] at bx0 bx1 bx2 bx3 bx4 bx5 bx6 bx7 bx8
    go_wp2_with fail
    refine (SAddBox_ansT B1 m1 d1 zs (a : Int) y0 y1 y2 y3 y4 y5 y6 y7 y8 (by omega) kd _ I1.out).mono ?_
    rw [OK.out]
    rintro e w3 ⟨A3, n3, c3, rfl, l3, r3, N3a⟩
    have s3 := N3a.le
    have I1 := Lib.hid (I1.out.new N3a)
    have RB := Lib.hid (RB.out.new N3a)
    have R2 := Lib.hid (R2.out.new N3a)
    have N3 := Lib.hid (N2.out.trans N3a); clear N3a
    obtain rfl : M = n3 := by have := LP.out; omega
    have R3 := Lib.hid r3; clear l3 r3
    clear bx0 bx1 bx2 bx3 bx4 bx5 bx6 bx7 bx8
    go_wp2_with fail
    refine (equalBoxes_same _ _ M _ _ _ (by omega) _ (Sts.of_res R2.out LP.out) (Sts.of_res R3.out LP.out)).mono ?_
    rintro e w4 ⟨rfl, N4a⟩
    have s4 := N4a.le
    have I1 := Lib.hid (I1.out.new N4a)
    have RB := Lib.hid (RB.out.new N4a)
    have R2 := Lib.hid (R2.out.new N4a)
    have R3 := Lib.hid (R3.out.new N4a)
    have N4 := Lib.hid (N3.out.trans N4a); clear N4a
    obtain ⟨b, off, rfl, hb, hc⟩ := I1.out.at_ (by omega)
    obtain ⟨kn, hkn⟩ : ∃ kn, zs.getD (a * 9 + 1) 0 = kn := ⟨_, rfl⟩
    have kn0 : kn ≠ 0 := by rw [← hkn]; exact TK.out
    have kb1 : (kn == 0) = false := by simp [kn0]
    have kb2 : (kn != 0) = true := by simp [kn0]
    have t1 : w4.cell? ⟨b, off + a * 9 + 1, none⟩ = some (.int .i64 kn) := by rw [← hkn, Nat.add_assoc]; exact hc (a * 9 + 1) (by omega)
    have ND := Lib.hid (N4.out)
    have I9 := Lib.hid I1.out
    obtain ⟨q, hq⟩ : ∃ q, (kidL zs m1 a).length = q := ⟨_, rfl⟩
    have KQ : Hid ((kidsA m1 zs (a : Int)).length = q) := Lib.hid (by rw [KL.out, List.length_map]; exact hq)
    obtain ⟨u, hu⟩ : ∃ u, dep zs a = u := ⟨_, rfl⟩
    have q8 : (q : Int) < 8 := by have := TL.out; omega
    have u5 : (u : Int) < 5 := by have := TD.out; omega
    have q8b : decide ((q : Int) < 8) = true := decide_eq_true q8
    have u5b : decide ((u : Int) < 5) = true := decide_eq_true u5
    have q8n : decide (q < 8) = true := decide_eq_true (by omega)
    have u5n : decide (u < 5) = true := decide_eq_true (by omega)
    rw [hu] at DL
    clear hc hb hkn kn0 hq hu
    go_wp2_with (first
      | (go_at_call 22; refine (KidsOf_ans (some ⟨b, off, none⟩) m1 d1 zs (a : Int) (by omega) _ I9.out).mono ?_; rintro e wa ⟨Aq, nq, cq, rfl, lq, _, Na⟩; (obtain rfl : nq = q := by rw [← lq]; exact KQ.out); (have I9 := Lib.hid (I9.out.new Na)); (have Na := Lib.hid Na))
      | (go_at_call 23; refine (DepthOf_any (some ⟨b, off, none⟩) m1 d1 zs (a : Int) (by omega) _ I9.out).mono ?_; rw [DL.out]; rintro e wb ⟨rfl, Nb⟩; (have Nb := Lib.hid (Na.out.trans Nb))))
    go_ret
    exact ⟨by first | rfl | simp, ND.out.trans Nb.out⟩
end Go.Proofs.Ytgedjpicodjmhaa
