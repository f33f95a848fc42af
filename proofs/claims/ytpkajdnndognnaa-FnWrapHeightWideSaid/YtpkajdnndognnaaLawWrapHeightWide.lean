/- The law FnWrapHeightWide, walked: wide screens need one line. Condition: the code can be read. -/
import Derived.Test.YtpkajdnndognnaaDrawPl
import Derived.Test.YtpkajdnndognnaaPrtX
import Derived.Test.YtpkajdnndognnaaPrtT
namespace Go.Proofs.Ytpkajdnndognnaa
open Go.RowKit

set_option maxHeartbeats 4000000 in
theorem lawWrapHeightWide (A : Option Addr) (n c : Nat) (hn : n ≤ maxLen) (hnc : n ≤ c) (w : World) (hb : Bytes w A n) :
    Calls Try.prog 8 #[.slice A n c] w fun e w' => e = .returned (.bool true) ∧ New w w' := by
  have HB := Lib.hid hb; have HM := Lib.hid hn
  clear hb
  unfold maxLen at hn
  by_cases hbig : 1048576 < n
  · go_enter Try.func8, Try.ntmps8
    go_wp2
    go_ret
    exact ⟨rfl, by (repeat (first | exact New.refl _ | assumption | refine New.alloc ?_ _ | refine New.drew ?_ | refine New.drewN ?_ _ | refine New.setCell ?_ (by first | omega | (simp; omega) | (simp; done)) _ | refine New.trans ?_ (by assumption)))⟩
  have hm : (n : Int) ≤ 1048576 := by omega
  have hm0 : (0 : Int) ≤ (n : Int) := by omega
  go_enter Try.func8, Try.ntmps8
  go_wp2_with fail
  refine (DrawWrapHeight_any A n c HM.out hnc _ HB.out).mono ?_
  rintro e w1 ⟨B1, m1, d1, ys, wd, gp, rfl, I1, dc, l1, T1, wb, gb, N1a⟩
  have s1 := N1a.le
  have N1 := Lib.hid ((New.refl w).trans N1a); clear N1a
  replace I1 := Lib.hid I1; replace T1 := Lib.hid T1
  have y0 : (0 : Int) ≤ (m1 : Int) := by omega
  have y1 : (m1 : Int) ≤ 13 := by omega
  obtain ⟨z, HZ⟩ : ∃ z, Hid (whA ys m1 wd gp = z) := ⟨_, Lib.hid rfl⟩
  go_wp2_with fail
  refine (WrapHeight_any B1 m1 d1 ys wd gp (by omega) dc _ I1.out).mono ?_
  rw [HZ.out]
  rintro e w2 ⟨rfl, N2a⟩
  have s2 := N2a.le
  have I1 := Lib.hid (I1.out.new N2a)
  have N2 := Lib.hid (N1.out.trans N2a); clear N2a
  go_wp2_with fail
  refine (SWrapHeight_any B1 m1 d1 ys wd gp (by omega) _ I1.out).mono ?_
  rw [HZ.out]
  rintro e w3 ⟨rfl, N3a⟩
  have s3 := N3a.le
  have I1 := Lib.hid (I1.out.new N3a)
  have N3 := Lib.hid (N2.out.trans N3a); clear N3a
  by_cases hb : z < 0
  · skip
    go_wp2_with fail
    refine (SWrapHeight_any B1 m1 d1 ys wd gp (by omega) _ I1.out).mono ?_
    rw [HZ.out]
    rintro e w4 ⟨rfl, N4a⟩
    have s4 := N4a.le
    have I1 := Lib.hid (I1.out.new N4a)
    have N4 := Lib.hid (N3.out.trans N4a); clear N4a
    go_wp2
    go_ret
    exact ⟨rfl, N4.out⟩
  rcases Nat.eq_zero_or_pos m1 with rfl | mp
  · skip
    go_wp2_with fail
    refine (SWrapHeight_any B1 0 d1 ys wd gp (by omega) _ I1.out).mono ?_
    rw [HZ.out]
    rintro e w4 ⟨rfl, N4a⟩
    have s4 := N4a.le
    have I1 := Lib.hid (I1.out.new N4a)
    have N4 := Lib.hid (N3.out.trans N4a); clear N4a
    go_wp2
    go_ret
    exact ⟨rfl, N4.out⟩
  have mb : ((m1 : Int) == 0) = false := by rw [beq_eq_false_iff_ne]; omega
  have hok : wrOk ys m1 wd gp = true := by
    cases h : wrOk ys m1 wd gp
    · have h2 := HZ.out
      rw [whA, h] at h2
      exact absurd (show z < 0 by rw [← h2]; simp) hb
    · rfl
  obtain ⟨hv, hw, hg⟩ := wrOk_iff.1 hok
  have m12 := n_le hv
  have GE := Lib.hid (whA_ge hok mp)
  rw [HZ.out] at GE
  have ONE := Lib.hid (whA_one hok mp (fun j hj => by
    have a := (pr_bd hv hj).1.2
    have t := T1.out (pw ys j) (by
      have hl := I1.out.len
      unfold pw
      have e : ys.getD (j * 2) 0 = ys[j * 2]'(by omega) := by simp [show j * 2 < ys.length by omega]
      rw [e]; exact List.getElem_mem _)
    unfold Tiny2 at t
    omega))
  have PB := Lib.hid (fun j (hj : j < m1) => (pr_bd hv hj).2)
  have MB := Lib.hid (fun j (hj : j ≤ m1) => mxh_bd hv (a := 0) j (by omega))
  have MS := Lib.hid (fun j => mxh_step ys 0 j)
  have hmx := run_mx Try.prog
  have NN := Lib.hid N3.out
  clear hok hv hw
  go_wp2
  go_loopw [7, 8] (fun mv iv wr => ∃ j : Nat, j ≤ m1 ∧ iv = .int .i64 (j : Int) ∧ mv = .int .i64 (mxh ys 0 j) ∧ wr = w3) (fun _ iv _ => m1 - (intOf iv).toNat)
  case atStart => exact ⟨0, Nat.zero_le _, rfl, rfl, rfl⟩
  case round =>
    obtain ⟨j, hj, rfl, rfl, rfl⟩ := hrel
    have j0 : (0 : Int) ≤ (j : Int) := by omega
    have mb := MB.out j hj
    by_cases hlt : j < m1
    · have j1 : (j : Int) < (m1 : Int) := by omega
      obtain ⟨b, off, rfl, hb, hc⟩ := I1.out.at_ (by omega)
      have g := hc (j * 2 + 1) (by omega)
      rw [show off + (j * 2 + 1) = off + j * 2 + 1 by omega] at g
      have pb := PB.out j hlt
      have ms := Lib.hid (MS.out j)
      unfold ph at pb
      have pe : Hid (ph ys (0 + j) = ys.getD (j * 2 + 1) 0) := Lib.hid (by unfold ph; rw [Nat.zero_add])
      clear hc
      generalize ys.getD (j * 2 + 1) 0 = x at g pb pe
      generalize hM : mxh ys 0 j = M at mb ms ⊢
      clear hM
      go_wp2
      go_roundw
      case rel => exact ⟨j + 1, by omega, by go_num, by rw [ms.out, pe.out], trivial⟩
      case measure => simp [intOf]; omega
    · obtain rfl : j = m1 := by omega
      have ge := GE.out
      have W1 := Lib.hid (WrapHeight_any B1 j d1 ys 10000 gp (by omega) dc wr I1.out)
      rw [ONE.out] at W1
      generalize mxh ys 0 j = M at *
      go_wp2_with fail
      refine W1.out.mono ?_
      rintro e w9 ⟨rfl, N9⟩
      go_wp2
      go_ret
      exact ⟨rfl, NN.out.trans N9⟩
end Go.Proofs.Ytpkajdnndognnaa
