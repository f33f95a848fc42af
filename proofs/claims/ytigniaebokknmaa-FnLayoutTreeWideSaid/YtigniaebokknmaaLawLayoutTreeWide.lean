/- The law FnLayoutTreeWide, walked: no height depends on the width of the screen. Condition: the code can be read. -/
import Derived.Test.YtigniaebokknmaaDrawLt
import Derived.Test.YtigniaebokknmaaRectQ
import Derived.Test.YtigniaebokknmaaLayD
import Derived.Deep.QuietTactic
import Derived.BigQuiet
namespace Go.Proofs.Ytigniaebokknmaa
open Go.RowKit

set_option maxHeartbeats 4000000 in
theorem lawLayoutTreeWide (A : Option Addr) (n c : Nat) (hn : n ≤ maxLen) (hnc : n ≤ c) (w : World) (hb : Bytes w A n) :
    Calls Try.prog 6 #[.slice A n c] w fun e w' => e = .returned (.bool true) ∧ New w w' := by
  have HB := Lib.hid hb; have HM := Lib.hid hn
  clear hb
  unfold maxLen at hn
  by_cases hbig : 1048576 < n
  · go_enter Try.func6, Try.ntmps6
    go_wp2
    go_ret
    exact ⟨rfl, by (repeat (first | exact New.refl _ | assumption | refine New.alloc ?_ _ | refine New.drew ?_ | refine New.drewN ?_ _ | refine New.setCell ?_ (by first | omega | (simp; omega) | (simp; done)) _ | refine New.trans ?_ (by assumption)))⟩
  have hm : (n : Int) ≤ 1048576 := by omega
  have hm0 : (0 : Int) ≤ (n : Int) := by omega
  go_enter Try.func6, Try.ntmps6
  go_wp2_with fail
  refine (DrawLayoutTree_any A n c HM.out hnc _ HB.out).mono ?_
  rintro e w1 ⟨B1, m1, d1, zs, x, y, rfl, I1, l1, kd, xb, yb, N1a⟩
  have s1 := N1a.le
  have N1 := Lib.hid ((New.refl w).trans N1a); clear N1a
  replace I1 := Lib.hid I1
  obtain ⟨nq, LQ⟩ : ∃ nq, Hid ((flat4 (layA m1 zs x y)).length = nq * 4) := ⟨(layA m1 zs x y).length, Lib.hid (flat4_len _)⟩
  have nqa : nq = (layA m1 zs x y).length := by have h1 := LQ.out; rw [flat4_len] at h1; omega
  have nq16 : nq ≤ 16 := by rw [nqa]; exact layA_len
  have nqi : (nq : Int) ≤ 16 := by omega
  have nqj : (0 : Int) ≤ (nq : Int) := by omega
  obtain ⟨xb0, xb1⟩ := xb
  obtain ⟨yb0, yb1⟩ := yb
  cases hv : layOk m1 zs x y
  · have h0 : nq = 0 := by rw [nqa, layA_no hv]; rfl
    subst h0
    clear hv nqa
    go_wp2_with fail
    refine (LayoutTree_ans B1 m1 d1 zs x y (by omega) _ I1.out).mono ?_
    rintro e w2 ⟨A2, n2, c2, rfl, l2, r2, N2a⟩
    have s2 := N2a.le
    have I1 := Lib.hid (I1.out.new N2a)
    have N2 := Lib.hid (N1.out.trans N2a); clear N2a
    obtain rfl : 0 = n2 := by have := LQ.out; omega
    have R2 := Lib.hid r2; clear l2 r2
    go_wp2_with fail
    refine (SLayoutTree_ans B1 m1 d1 zs x y (by omega) _ I1.out).mono ?_
    rintro e w3 ⟨A3, n3, c3, rfl, l3, r3, N3a⟩
    have s3 := N3a.le
    have I1 := Lib.hid (I1.out.new N3a)
    have R2 := Lib.hid (R2.out.new N3a)
    have N3 := Lib.hid (N2.out.trans N3a); clear N3a
    obtain rfl : 0 = n3 := by have := LQ.out; omega
    have R3 := Lib.hid r3; clear l3 r3
    go_wp2_with fail
    refine (equalRects_same _ _ 0 _ _ _ (by omega) _ (Sts.of_res (m := 3) R2.out LQ.out) (Sts.of_res (m := 3) R3.out LQ.out)).mono ?_
    rintro e w4 ⟨rfl, N4a⟩
    have s4 := N4a.le
    have I1 := Lib.hid (I1.out.new N4a)
    have R2 := Lib.hid (R2.out.new N4a)
    have R3 := Lib.hid (R3.out.new N4a)
    have N4 := Lib.hid (N3.out.trans N4a); clear N4a
    go_wp2_with fail
    refine (SLayoutTree_ans B1 m1 d1 zs x y (by omega) _ I1.out).mono ?_
    rintro e w5 ⟨A5, n5, c5, rfl, l5, r5, N5a⟩
    have s5 := N5a.le
    have I1 := Lib.hid (I1.out.new N5a)
    have R2 := Lib.hid (R2.out.new N5a)
    have R3 := Lib.hid (R3.out.new N5a)
    have N5 := Lib.hid (N4.out.trans N5a); clear N5a
    obtain rfl : 0 = n5 := by have := LQ.out; omega
    have R5 := Lib.hid r5; clear l5 r5
    go_wp2_with fail
    refine (equalRects_same _ _ 0 _ _ _ (by omega) _ (Sts.of_res (m := 3) R2.out LQ.out) (Sts.of_res (m := 3) R5.out LQ.out)).mono ?_
    rintro e w6 ⟨rfl, N6a⟩
    have s6 := N6a.le
    have I1 := Lib.hid (I1.out.new N6a)
    have R2 := Lib.hid (R2.out.new N6a)
    have R3 := Lib.hid (R3.out.new N6a)
    have R5 := Lib.hid (R5.out.new N6a)
    have N6 := Lib.hid (N5.out.trans N6a); clear N6a
    go_wp2
    go_ret
    exact ⟨rfl, N6.out⟩
  · have hq : nq = m1 := by rw [nqa, layA_yes hv]; simp
    by_cases hw : (10000 : Int) < x + 10
    · subst hq
      obtain ⟨hvt, hx0, hy0⟩ := layOk_iff.1 hv
      have v1 := (vtB_iff.1 hvt).1
      have nz0 : ((nq : Int) == 0) = false := by simp; omega
      have xw : IntKind.i64.wrap (x + 10) = x + 10 := IntWalk.i64_in _ (by omega)
      clear hv nqa hvt hx0 hy0
      go_wp2_with fail
      refine (LayoutTree_ans B1 nq d1 zs x y (by omega) _ I1.out).mono ?_
      rintro e w2 ⟨A2, n2, c2, rfl, l2, r2, N2a⟩
      have s2 := N2a.le
      have I1 := Lib.hid (I1.out.new N2a)
      have N2 := Lib.hid (N1.out.trans N2a); clear N2a
      obtain rfl : nq = n2 := by have := LQ.out; omega
      have R2 := Lib.hid r2; clear l2 r2
      go_wp2_with fail
      refine (SLayoutTree_ans B1 nq d1 zs x y (by omega) _ I1.out).mono ?_
      rintro e w3 ⟨A3, n3, c3, rfl, l3, r3, N3a⟩
      have s3 := N3a.le
      have I1 := Lib.hid (I1.out.new N3a)
      have R2 := Lib.hid (R2.out.new N3a)
      have N3 := Lib.hid (N2.out.trans N3a); clear N3a
      obtain rfl : nq = n3 := by have := LQ.out; omega
      have R3 := Lib.hid r3; clear l3 r3
      go_wp2_with fail
      refine (equalRects_same _ _ nq _ _ _ (by omega) _ (Sts.of_res (m := 3) R2.out LQ.out) (Sts.of_res (m := 3) R3.out LQ.out)).mono ?_
      rintro e w4 ⟨rfl, N4a⟩
      have s4 := N4a.le
      have I1 := Lib.hid (I1.out.new N4a)
      have R2 := Lib.hid (R2.out.new N4a)
      have R3 := Lib.hid (R3.out.new N4a)
      have N4 := Lib.hid (N3.out.trans N4a); clear N4a
      go_wp2_with fail
      refine (SLayoutTree_ans B1 nq d1 zs x y (by omega) _ I1.out).mono ?_
      rintro e w5 ⟨A5, n5, c5, rfl, l5, r5, N5a⟩
      have s5 := N5a.le
      have I1 := Lib.hid (I1.out.new N5a)
      have R2 := Lib.hid (R2.out.new N5a)
      have R3 := Lib.hid (R3.out.new N5a)
      have N5 := Lib.hid (N4.out.trans N5a); clear N5a
      obtain rfl : nq = n5 := by have := LQ.out; omega
      have R5 := Lib.hid r5; clear l5 r5
      go_wp2_with fail
      refine (equalRects_same _ _ nq _ _ _ (by omega) _ (Sts.of_res (m := 3) R2.out LQ.out) (Sts.of_res (m := 3) R5.out LQ.out)).mono ?_
      rintro e w6 ⟨rfl, N6a⟩
      have s6 := N6a.le
      have I1 := Lib.hid (I1.out.new N6a)
      have R2 := Lib.hid (R2.out.new N6a)
      have R3 := Lib.hid (R3.out.new N6a)
      have R5 := Lib.hid (R5.out.new N6a)
      have N6 := Lib.hid (N5.out.trans N6a); clear N6a
      go_wp2
      go_ret
      exact ⟨rfl, N6.out⟩
    subst hq
    obtain ⟨hvt, hx0, hy0⟩ := layOk_iff.1 hv
    have v1 := (vtB_iff.1 hvt).1
    have nz0 : ((nq : Int) == 0) = false := by simp; omega
    have xw : IntKind.i64.wrap (x + 10) = x + 10 := IntWalk.i64_in _ (by omega)
    have hv2 : layOk nq zs (x + 10) y = true := layOk_iff.2 ⟨hvt, ⟨by omega, by omega⟩, hy0⟩
    have LA := Lib.hid (fun i hi => lay_at hv (i := i) hi)
    have LB := Lib.hid (fun i hi => lay_at hv2 (i := i) hi)
    have V4 := Lib.hid (fun k => flat4_at (layA nq zs x y) k)
    have V5 := Lib.hid (fun k => flat4_at (layA nq zs (x + 10) y) k)
    have HH := Lib.hid (fun i (hi : i < nq) => lay_high (W := x) (W' := x + 10) (H := y) hvt i hi)
    have LQ2 : Hid ((flat4 (layA nq zs (x + 10) y)).length = nq * 4) := Lib.hid (by rw [flat4_len, layA_yes hv2]; simp)
    clear hv nqa hvt hx0 hy0 hv2
    go_wp2_with fail
    refine (LayoutTree_ans B1 nq d1 zs x y (by omega) _ I1.out).mono ?_
    rintro e w2 ⟨A2, n2, c2, rfl, l2, r2, N2a⟩
    have s2 := N2a.le
    have I1 := Lib.hid (I1.out.new N2a)
    have N2 := Lib.hid (N1.out.trans N2a); clear N2a
    obtain rfl : nq = n2 := by have := LQ.out; omega
    have R2 := Lib.hid r2; clear l2 r2
    go_wp2_with fail
    refine (SLayoutTree_ans B1 nq d1 zs x y (by omega) _ I1.out).mono ?_
    rintro e w3 ⟨A3, n3, c3, rfl, l3, r3, N3a⟩
    have s3 := N3a.le
    have I1 := Lib.hid (I1.out.new N3a)
    have R2 := Lib.hid (R2.out.new N3a)
    have N3 := Lib.hid (N2.out.trans N3a); clear N3a
    obtain rfl : nq = n3 := by have := LQ.out; omega
    have R3 := Lib.hid r3; clear l3 r3
    go_wp2_with fail
    refine (equalRects_same _ _ nq _ _ _ (by omega) _ (Sts.of_res (m := 3) R2.out LQ.out) (Sts.of_res (m := 3) R3.out LQ.out)).mono ?_
    rintro e w4 ⟨rfl, N4a⟩
    have s4 := N4a.le
    have I1 := Lib.hid (I1.out.new N4a)
    have R2 := Lib.hid (R2.out.new N4a)
    have R3 := Lib.hid (R3.out.new N4a)
    have N4 := Lib.hid (N3.out.trans N4a); clear N4a
    go_wp2_with fail
    refine (LayoutTree_ans B1 nq d1 zs (x + 10) y (by omega) _ I1.out).mono ?_
    rintro e w5 ⟨A5, n5, c5, rfl, l5, r5, N5a⟩
    have s5 := N5a.le
    have I1 := Lib.hid (I1.out.new N5a)
    have R2 := Lib.hid (R2.out.new N5a)
    have R3 := Lib.hid (R3.out.new N5a)
    have N5 := Lib.hid (N4.out.trans N5a); clear N5a
    obtain rfl : nq = n5 := by have := LQ2.out; omega
    have R5 := Lib.hid r5; clear l5 r5
    obtain ⟨b, off, rfl, hb, hc⟩ := (Sts.of_res (m := 3) R2.out LQ.out).at_ (by omega)
    obtain ⟨b2, off2, rfl, hb2, hc2⟩ := (Sts.of_res (m := 3) R5.out LQ2.out).at_ (by omega)
    have GC := Lib.hid (fun i (hi : i < nq) V (hV : New w5 V) => (show V.cell? ⟨b, off + i * 4 + 3, none⟩ = some (.int .i64 (layR zs nq x y i).2.2.2) ∧ V.cell? ⟨b2, off2 + i * 4 + 3, none⟩ = some (.int .i64 (layR zs nq x y i).2.2.2) by
      obtain ⟨_, _, _, v3⟩ := V4.out i
      rw [LA.out i hi] at v3
      obtain ⟨_, _, _, u3⟩ := V5.out i
      rw [LB.out i hi, ← HH.out i hi] at u3
      exact ⟨(hV.cells b _ hb).trans ((hc (i * 4 + 3) (by omega)).trans (by rw [v3])), (hV.cells b2 _ hb2).trans ((hc2 (i * 4 + 3) (by omega)).trans (by rw [u3]))⟩))
    have NN := Lib.hid N5.out
    clear hc hc2
    go_wp2
    go_loopw [8] (fun i wr => ∃ j : Nat, j ≤ nq ∧ i = .int .i64 j ∧ Hid (New w5 wr)) (fun i _ => nq - (intOf i).toNat)
    case atStart => exact ⟨0, Nat.zero_le _, rfl, Lib.hid (New.refl _)⟩
    case round =>
      obtain ⟨j, hj, rfl, HW⟩ := hrel
      have j0 : (0 : Int) ≤ (j : Int) := by omega
      by_cases hlt : j < nq
      · have j1 : (j : Int) < (nq : Int) := by omega
        obtain ⟨g3, o3⟩ := GC.out j hlt wr HW.out
        generalize (layR zs nq x y j).2.2.2 = Q at g3 o3
        have qe : (Q != Q) = false := by simp
        go_wp2
        go_quiet (fail)
        have NQ := Lib.hid (HW.out.drewN nq)
        generalize wr.drewN nq = W5 at NQ ⊢
        go_wp2
        go_roundw
        case rel => exact ⟨j + 1, by omega, by go_num, NQ⟩
        case measure => simp [intOf]; omega
      · obtain rfl : nq = j := by omega
        go_wp2
        go_ret
        exact ⟨ret_bool (by simp), NN.out.trans HW.out⟩
end Go.Proofs.Ytigniaebokknmaa
