/- The law FnJoinPaint, walked: for every code. Condition: the code can be read. -/
import Derived.Test.YtckdokijmlpngaaDrawRc
import Derived.Test.YtckdokijmlpngaaJoiI
import Derived.Test.YtckdokijmlpngaaJoiS
import Derived.Test.YtckdokijmlpngaaJoiP
import Derived.Test.YtckdokijmlpngaaRectQ
import Derived.Test.YtckdokijmlpngaaPlain
import Derived.Deep.RegionHeld3
namespace Go.Proofs.Ytckdokijmlpngaa
open Go.RowKit

set_option maxRecDepth 100000 in
set_option maxHeartbeats 4000000 in
theorem lawJoinPaint (A : Option Addr) (n c : Nat) (hn : n ≤ maxLen) (hnc : n ≤ c) (w : World) (hb : Bytes w A n) :
    Calls Try.prog 12 #[.slice A n c] w fun e w' => e = .returned (.bool true) ∧ New w w' := by
  have HB := Lib.hid hb; have HM := Lib.hid hn
  clear hb
  unfold maxLen at hn
  by_cases hbig : 1048576 < n
  · go_enter Try.func12, Try.ntmps12
    go_wp2
    go_ret
    exact ⟨rfl, by (repeat (first | exact New.refl _ | assumption | refine New.alloc ?_ _ | refine New.drew ?_ | refine New.drewN ?_ _ | refine New.setCell ?_ (by first | omega | (simp; omega) | (simp; done)) _ | refine New.trans ?_ (by assumption)))⟩
  have hm : (n : Int) ≤ 1048576 := by omega
  have hm0 : (0 : Int) ≤ (n : Int) := by omega
  go_enter Try.func12, Try.ntmps12
  go_wp2_with fail
  refine (DrawJoinPaint_any A n c HM.out hnc _ HB.out).mono ?_
  rintro e w1 ⟨B1, m1, d1, xs, rfl, I1, dc1, l1, N1a⟩
  have s1 := N1a.le
  have N1 := Lib.hid ((New.refl w).trans N1a); clear N1a
  replace I1 := Lib.hid I1
  have y0 : (0 : Int) ≤ (m1 : Int) := by omega
  have y1 : (m1 : Int) ≤ 7 := by omega
  go_wp2_with fail
  refine (JoinPaint_ansK B1 m1 d1 xs (by omega) _ I1.out).mono ?_
  rintro e w2 ⟨A2, n2, c2, rfl, l2, q2, r2, N2a⟩
  have s2 := N2a.le
  have I1 := Lib.hid (I1.out.new N2a)
  have N2 := Lib.hid (N1.out.trans N2a); clear N2a
  have R2 := Lib.hid r2; have Q2 := Lib.hid q2; have L2 := Lib.hid l2; clear r2 q2 l2
  go_wp2_with fail
  refine (SJoinPaint_ansT B1 m1 d1 xs (by omega) _ I1.out).mono ?_
  rintro e w3 ⟨A3, n3, c3, rfl, l3, r3, N3a⟩
  have s3 := N3a.le
  have I1 := Lib.hid (I1.out.new N3a)
  have R2 := Lib.hid (R2.out.new N3a)
  have N3 := Lib.hid (N2.out.trans N3a); clear N3a
  have R3 := Lib.hid r3; obtain rfl : n2 = n3 := by have := L2.out; omega
  clear r3 l3
  have LJ := jA_len m1 xs
  have nj : n2 ≤ 6 := by have := L2.out; omega
  have nji : (n2 : Int) ≤ 6 := by omega
  have njj : (0 : Int) ≤ (n2 : Int) := by omega
  clear LJ
  go_wp2_with fail
  refine (equalRects_same A2 A3 n2 c2 c3 _ (by omega) _ (Sts.of_res (m := 3) R2.out L2.out) (Sts.of_res (m := 3) R3.out L2.out)).mono ?_
  rintro e w4 ⟨rfl, N4a⟩
  have s4 := N4a.le
  have I1 := Lib.hid (I1.out.new N4a)
  have R2 := Lib.hid (R2.out.new N4a)
  have R3 := Lib.hid (R3.out.new N4a)
  have N4 := Lib.hid (N3.out.trans N4a); clear N4a
  cases hjb : jB m1 xs
  · have HJB := Lib.hid hjb; clear hjb
    go_wp2_with fail
    refine (equalRects_same A2 A3 n2 c2 c3 _ (by omega) _ (Sts.of_res (m := 3) R2.out L2.out) (Sts.of_res (m := 3) R3.out L2.out)).mono ?_
    rintro e w5 ⟨rfl, N5a⟩
    have s5 := N5a.le
    have I1 := Lib.hid (I1.out.new N5a)
    have R2 := Lib.hid (R2.out.new N5a)
    have R3 := Lib.hid (R3.out.new N5a)
    have N5 := Lib.hid (N4.out.trans N5a); clear N5a
    go_wp2
    go_ret
    exact ⟨rfl, N5.out⟩
  obtain ⟨jb6, hk1, hk2⟩ := jB_iff.1 hjb
  have KP := kept hk1 hk2
  have JN := Lib.hid (joined hk1 hk2)
  have HK1 := Lib.hid hk1; have HK2 := Lib.hid hk2
  have hja := jA_yes hjb
  rw [hja] at L2 R2
  have kl := KP.len; have km := KP.le; have KO := Lib.hid KP.ok
  obtain rfl : n2 = (jTo xs m1).2 := by have := L2.out; omega
  generalize (jTo xs m1).1 = out at *
  generalize (jTo xs m1).2 = mo at *
  have S4 := Lib.hid (Sts.of_res (m := 3) R2.out kl)
  have NN := Lib.hid N4.out
  have kmi : (mo : Int) ≤ (m1 : Int) := by omega
  clear KP hja kl
  go_wp2
  go_loopw [8] (fun iv wr => ∃ i : Nat, i ≤ m1 ∧ iv = .int .i64 (i : Int) ∧ Hid (New w4 wr)) (fun iv _ => m1 - (intOf iv).toNat)
  case atStart => exact ⟨0, Nat.zero_le _, rfl, Lib.hid (New.refl _)⟩
  case round =>
    obtain ⟨wo, rfl⟩ : ∃ x, x = wr := ⟨wr, rfl⟩
    obtain ⟨i, hi, rfl, HN⟩ := hrel
    have i0 : (0 : Int) ≤ (i : Int) := by omega
    by_cases ilt : i < m1
    · have i1 : (i : Int) < (m1 : Int) := by omega
      have JI := Lib.hid (JN.out i ilt)
      have FIN : Hid (anyTo mo (fun t => insB (xs.getD (i * 4) 0) (xs.getD (i * 4 + 1) 0) (xs.getD (i * 4 + 2) 0) (xs.getD (i * 4 + 3) 0) (out.getD (t * 4) 0) (out.getD (t * 4 + 1) 0) (out.getD (t * 4 + 2) 0) (out.getD (t * 4 + 3) 0)) = true) := Lib.hid (by
        obtain ⟨t, ht, h⟩ := JI.out
        exact anyTo_iff.2 ⟨t, ht, insB_yes h⟩)
      have va := HK1.out i ilt
      obtain ⟨b, off, rfl, hb, hc⟩ := I1.out.at_ (by omega)
      have KX := Lib.hid (fun V (hV : New w4 V) => (⟨(hV.cells b _ hb).trans (hc (i * 4) (by have := idx_lt (m := 4) (j := 0) ilt (by omega); omega)), (hV.cells b _ hb).trans (hc (i * 4 + 1) (by have := idx_lt (m := 4) (j := 1) ilt (by omega); omega)), (hV.cells b _ hb).trans (hc (i * 4 + 2) (by have := idx_lt (m := 4) (j := 2) ilt (by omega); omega)), (hV.cells b _ hb).trans (hc (i * 4 + 3) (by have := idx_lt (m := 4) (j := 3) ilt (by omega); omega))⟩ : V.cell? ⟨b, off + i * 4, none⟩ = some (.int .i64 (xs.getD (i * 4) 0)) ∧ V.cell? ⟨b, off + i * 4 + 1, none⟩ = some (.int .i64 (xs.getD (i * 4 + 1) 0)) ∧ V.cell? ⟨b, off + i * 4 + 2, none⟩ = some (.int .i64 (xs.getD (i * 4 + 2) 0)) ∧ V.cell? ⟨b, off + i * 4 + 3, none⟩ = some (.int .i64 (xs.getD (i * 4 + 3) 0))))
      unfold rOk at va
      clear hc JI
      generalize hP : (fun t => insB (xs.getD (i * 4) 0) (xs.getD (i * 4 + 1) 0) (xs.getD (i * 4 + 2) 0) (xs.getD (i * 4 + 3) 0) (out.getD (t * 4) 0) (out.getD (t * 4 + 1) 0) (out.getD (t * 4 + 2) 0) (out.getD (t * 4 + 3) 0)) = P at FIN
      have HP := Lib.hid (fun t => (congrFun hP t).symm)
      clear hP
      generalize xs.getD (i * 4) 0 = x0 at KX HP va
      generalize xs.getD (i * 4 + 1) 0 = x1 at KX HP va
      generalize xs.getD (i * 4 + 2) 0 = x2 at KX HP va
      generalize xs.getD (i * 4 + 3) 0 = x3 at KX HP va
      have VA := Lib.hid va
      clear va
      go_wp2
      go_loopw [9, 10] (fun sv kv wr => ∃ k : Nat, k ≤ mo ∧ kv = .int .i64 (k : Int) ∧ sv = .bool (anyTo k P) ∧ Hid (New w4 wr)) (fun _ kv _ => mo - (intOf kv).toNat)
      case atStart => exact ⟨0, Nat.zero_le _, rfl, by rw [anyTo_no (fun i h => absurd h (by omega))], HN⟩
      case round =>
        obtain ⟨k, hk, rfl, rfl, HM⟩ := hrel
        have k0 : (0 : Int) ≤ (k : Int) := by omega
        by_cases klt : k < mo
        · have k1 : (k : Int) < (mo : Int) := by omega
          have AS := Lib.hid (anyTo_step (n := k) P)
          have PK := Lib.hid (HP.out k)
          have vb := KO.out k klt
          obtain ⟨b', off', rfl, hb', hc'⟩ := S4.out.at_ (by omega)
          have KY := Lib.hid (fun V (hV : New w4 V) => (⟨(hV.cells b' _ hb').trans (hc' (k * 4) (by have := idx_lt (m := 4) (j := 0) klt (by omega); omega)), (hV.cells b' _ hb').trans (hc' (k * 4 + 1) (by have := idx_lt (m := 4) (j := 1) klt (by omega); omega)), (hV.cells b' _ hb').trans (hc' (k * 4 + 2) (by have := idx_lt (m := 4) (j := 2) klt (by omega); omega)), (hV.cells b' _ hb').trans (hc' (k * 4 + 3) (by have := idx_lt (m := 4) (j := 3) klt (by omega); omega))⟩ : V.cell? ⟨b', off' + k * 4, none⟩ = some (.int .i64 (out.getD (k * 4) 0)) ∧ V.cell? ⟨b', off' + k * 4 + 1, none⟩ = some (.int .i64 (out.getD (k * 4 + 1) 0)) ∧ V.cell? ⟨b', off' + k * 4 + 2, none⟩ = some (.int .i64 (out.getD (k * 4 + 2) 0)) ∧ V.cell? ⟨b', off' + k * 4 + 3, none⟩ = some (.int .i64 (out.getD (k * 4 + 3) 0))))
          unfold v4 rg at vb
          dsimp only at vb
          clear hc'
          generalize out.getD (k * 4) 0 = y0_ at KY PK vb
          generalize out.getD (k * 4 + 1) 0 = y1_ at KY PK vb
          generalize out.getD (k * 4 + 2) 0 = y2_ at KY PK vb
          generalize out.getD (k * 4 + 3) 0 = y3_ at KY PK vb
          have VB := Lib.hid vb
          clear vb
          have ND := Lib.hid HM.out.drew
          have KK := KX.out _ ND.out
          have KL := KY.out _ ND.out
          generalize anyTo k P = bo at *
          cases bo
          · go_wp2
            go_region_held3 (fun w' => (w'.cell? ⟨b, off + i * 4, none⟩ = some (.int .i64 x0) ∧ w'.cell? ⟨b, off + i * 4 + 1, none⟩ = some (.int .i64 x1) ∧ w'.cell? ⟨b, off + i * 4 + 2, none⟩ = some (.int .i64 x2) ∧ w'.cell? ⟨b, off + i * 4 + 3, none⟩ = some (.int .i64 x3)) ∧ w'.cell? ⟨b', off' + k * 4, none⟩ = some (.int .i64 y0_) ∧ w'.cell? ⟨b', off' + k * 4 + 1, none⟩ = some (.int .i64 y1_) ∧ w'.cell? ⟨b', off' + k * 4 + 2, none⟩ = some (.int .i64 y2_) ∧ w'.cell? ⟨b', off' + k * 4 + 3, none⟩ = some (.int .i64 y3_))
              (first | exact ⟨KK, KL⟩ | assumption)
              ((go_at_call 36; refine (inside_any _ _ _ _ _ _ _ _ _ VA.out VB.out).mono ?_; rintro e wk ⟨rfl, Nk⟩; (replace ND := Lib.hid (ND.out.trans Nk)); (have KK := KX.out _ ND.out); (have KL := KY.out _ ND.out); clear Nk))
            go_wp2
            go_roundw
            case rel => exact ⟨k + 1, by omega, by go_num, by rw [AS.out, PK.out, Bool.false_or], ND⟩
            case measure => simp [intOf]; omega
          · go_wp2
            go_quiet (fail)
            have NQ := Lib.hid (HM.out.drewN nq)
            generalize wr.drewN nq = W5 at NQ ⊢
            go_wp2
            go_roundw
            case rel => exact ⟨k + 1, by omega, by go_num, by rw [AS.out, Bool.true_or], NQ⟩
            case measure => simp [intOf]; omega
        · obtain rfl : mo = k := by omega
          rw [FIN.out]
          go_wp2
          go_roundw
          case rel => exact ⟨i + 1, by omega, by go_num, HM⟩
          case measure => simp [intOf]; omega
    · go_wp2
      go_ret
      exact ⟨rfl, NN.out.trans HN.out⟩
end Go.Proofs.Ytckdokijmlpngaa
