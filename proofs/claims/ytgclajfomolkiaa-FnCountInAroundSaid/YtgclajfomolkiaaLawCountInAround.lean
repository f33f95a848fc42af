/- The law FnCountInAround, walked: the boxes in a box are those behind it, as many as counted. Condition: the code can be read. -/
import Derived.Test.YtgclajfomolkiaaDrawTt
import Derived.Test.YtgclajfomolkiaaTreeP
namespace Go.Proofs.Ytgclajfomolkiaa
open Go.RowKit

set_option maxHeartbeats 4000000 in
theorem lawCountInAround (A : Option Addr) (n c : Nat) (hn : n ≤ maxLen) (hnc : n ≤ c) (w : World) (hb : Bytes w A n) :
    Calls Try.prog 9 #[.slice A n c] w fun e w' => e = .returned (.bool true) ∧ New w w' := by
  have HB := Lib.hid hb; have HM := Lib.hid hn
  clear hb
  unfold maxLen at hn
  by_cases hbig : 1048576 < n
  · go_enter Try.func9, Try.ntmps9
    go_wp2
    go_ret
    exact ⟨rfl, by (repeat (first | exact New.refl _ | assumption | refine New.alloc ?_ _ | refine New.drew ?_ | refine New.drewN ?_ _ | refine New.setCell ?_ (by first | omega | (simp; omega) | (simp; done)) _ | refine New.trans ?_ (by assumption)))⟩
  have hm : (n : Int) ≤ 1048576 := by omega
  have hm0 : (0 : Int) ≤ (n : Int) := by omega
  go_enter Try.func9, Try.ntmps9
  go_wp2_with fail
  refine (DrawCountIn_any A n c HM.out hnc _ HB.out).mono ?_
  rintro e w1 ⟨B1, m1, d1, zs, x, rfl, I1, l1, kd, xb, N1a⟩
  have s1 := N1a.le
  have N1 := Lib.hid ((New.refl w).trans N1a); clear N1a
  replace I1 := Lib.hid I1
  by_cases hok : nodeOk m1 zs x = true
  · obtain ⟨hv, a, rfl, ha⟩ := nodeOk_iff.1 hok
    have HV := Lib.hid hv; have v1 := (vtB_iff.1 hv).1
    have a0 : (0 : Int) ≤ (a : Int) := by omega
    have a1 : (a : Int) < (m1 : Int) := by omega
    clear hok xb
    have EA := Lib.hid (cntA_at hv ha)
    have e0 := en_bd (zs := zs) ha
    have AI := Lib.hid (fun j (hj : j < m1) => (arA_at hv ha hj).trans (show anc zs a j = decide ((a : Int) ≤ (j : Int) ∧ (j : Int) < (a : Int) + ((en zs m1 a : Int) - (a : Int))) by
      have h := (link_vt hv).in_iff ha hj
      by_cases hq : a ≤ j ∧ j < en zs m1 a
      · rw [h.2 hq, decide_eq_true]; omega
      · rw [decide_eq_false (by omega)]
        cases hh : anc zs a j with
        | false => rfl
        | true => exact absurd (h.1 hh) hq))
    have en0 : (1 : Int) ≤ (en zs m1 a : Int) - (a : Int) := by omega
    have en1 : (en zs m1 a : Int) - (a : Int) ≤ 16 := by omega
    obtain ⟨N, hN⟩ : ∃ N, (en zs m1 a : Int) - (a : Int) = N := ⟨_, rfl⟩
    rw [hN] at en0 en1 AI
    have HNN := Lib.hid hN
    clear hv hN e0
    go_wp2_with fail
    refine (CountIn_any B1 m1 d1 zs (a : Int) (by omega) _ I1.out).mono ?_
    rw [EA.out, HNN.out]
    rintro e w2 ⟨rfl, N2a⟩
    have s2 := N2a.le
    have I1 := Lib.hid (I1.out.new N2a)
    have N2 := Lib.hid (N1.out.trans N2a); clear N2a
    go_wp2_with fail
    refine (SCountIn_any B1 m1 d1 zs (a : Int) (by omega) _ I1.out).mono ?_
    rw [EA.out, HNN.out]
    rintro e w3 ⟨rfl, N3a⟩
    have s3 := N3a.le
    have I1 := Lib.hid (I1.out.new N3a)
    have N3 := Lib.hid (N2.out.trans N3a); clear N3a
    have NN := Lib.hid N3.out
    go_wp2
    go_loopw [6] (fun i wr => ∃ j : Nat, j ≤ m1 ∧ i = .int .i64 j ∧ Hid (New w3 wr)) (fun i _ => m1 - (intOf i).toNat)
    case atStart => exact ⟨0, Nat.zero_le _, rfl, Lib.hid (New.refl _)⟩
    case round =>
      obtain ⟨j, hj, rfl, HW⟩ := hrel
      have j0 : (0 : Int) ≤ (j : Int) := by omega
      by_cases hlt : j < m1
      · have I2 := Lib.hid (I1.out.new HW.out)
        have j1 : (j : Int) < (m1 : Int) := by omega
        have ai := AI.out j hlt
        by_cases p1 : (a : Int) ≤ (j : Int)
        · by_cases p2 : (j : Int) < (a : Int) + N
          · rw [decide_eq_true ⟨p1, p2⟩] at ai
            have AJ := Lib.hid ai
            clear ai
            go_wp2_with fail
            refine (IsAround_any B1 m1 d1 zs (a : Int) (j : Int) (by omega) _ I2.out).mono ?_
            rw [AJ.out]
            rintro e wc ⟨rfl, Nc⟩
            replace Nc := Lib.hid (HW.out.trans Nc)
            go_wp2
            go_roundw
            case rel => exact ⟨j + 1, by omega, by go_num, Nc⟩
            case measure => simp [intOf]; omega
          · rw [decide_eq_false (fun h => p2 h.2)] at ai
            have AJ := Lib.hid ai
            have p2' : decide ((j : Int) < (a : Int) + N) = false := decide_eq_false p2
            clear ai
            go_wp2_with fail
            refine (IsAround_any B1 m1 d1 zs (a : Int) (j : Int) (by omega) _ I2.out).mono ?_
            rw [AJ.out]
            rintro e wc ⟨rfl, Nc⟩
            replace Nc := Lib.hid (HW.out.trans Nc)
            go_wp2
            go_roundw
            case rel => exact ⟨j + 1, by omega, by go_num, Nc⟩
            case measure => simp [intOf]; omega
        · rw [decide_eq_false (fun h => p1 h.1)] at ai
          have AJ := Lib.hid ai
          clear ai
          go_wp2_with fail
          refine (IsAround_any B1 m1 d1 zs (a : Int) (j : Int) (by omega) _ I2.out).mono ?_
          rw [AJ.out]
          rintro e wc ⟨rfl, Nc⟩
          replace Nc := Lib.hid (HW.out.trans Nc)
          go_wp2
          go_roundw
          case rel => exact ⟨j + 1, by omega, by go_num, Nc⟩
          case measure => simp [intOf]; omega
      · obtain rfl : m1 = j := by omega
        go_wp2
        go_ret
        exact ⟨rfl, NN.out.trans HW.out⟩
  · have hok' : nodeOk m1 zs x = false := by simpa using hok
    clear hok
    have EA := Lib.hid (cntA_no hok'); clear hok'
    go_wp2_with fail
    refine (CountIn_any B1 m1 d1 zs x (by omega) _ I1.out).mono ?_
    rw [EA.out]
    rintro e w2 ⟨rfl, N2a⟩
    have s2 := N2a.le
    have I1 := Lib.hid (I1.out.new N2a)
    have N2 := Lib.hid (N1.out.trans N2a); clear N2a
    go_wp2_with fail
    refine (SCountIn_any B1 m1 d1 zs x (by omega) _ I1.out).mono ?_
    rw [EA.out]
    rintro e w3 ⟨rfl, N3a⟩
    have s3 := N3a.le
    have I1 := Lib.hid (I1.out.new N3a)
    have N3 := Lib.hid (N2.out.trans N3a); clear N3a
    go_wp2_with fail
    refine (SCountIn_any B1 m1 d1 zs x (by omega) _ I1.out).mono ?_
    rw [EA.out]
    rintro e w4 ⟨rfl, N4a⟩
    have s4 := N4a.le
    have I1 := Lib.hid (I1.out.new N4a)
    have N4 := Lib.hid (N3.out.trans N4a); clear N4a
    go_wp2
    go_ret
    exact ⟨rfl, N4.out⟩
end Go.Proofs.Ytgclajfomolkiaa
