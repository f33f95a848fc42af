/- The law FnValidTasks, walked: a queue without one of its tasks is a queue. Condition: the code can be read. -/
import Derived.Test.YtecnhjofgkhlnaaDrawQu
import Derived.Test.YtecnhjofgkhlnaaTaskV
import Derived.Test.YtecnhjofgkhlnaaTskJ
import Derived.Deep.RegionHeld3
import Derived.Deep.QuietTactic
import Derived.BigQuiet
namespace Go.Proofs.Ytecnhjofgkhlnaa
open Go.RowKit

set_option maxHeartbeats 4000000 in
theorem lawValidTasks (A : Option Addr) (n c : Nat) (hn : n ≤ maxLen) (hnc : n ≤ c) (w : World) (hb : Bytes w A n) :
    Calls Try.prog 7 #[.slice A n c] w fun e w' => e = .returned (.bool true) ∧ New w w' := by
  have HB := Lib.hid hb; have HM := Lib.hid hn
  clear hb
  unfold maxLen at hn
  by_cases hbig : 1048576 < n
  · go_enter Try.func7, Try.ntmps7
    go_wp2
    go_ret
    exact ⟨rfl, by (repeat (first | exact New.refl _ | assumption | refine New.alloc ?_ _ | refine New.drew ?_ | refine New.drewN ?_ _ | refine New.setCell ?_ (by first | omega | (simp; omega) | (simp; done)) _ | refine New.trans ?_ (by assumption)))⟩
  have hm : (n : Int) ≤ 1048576 := by omega
  have hm0 : (0 : Int) ≤ (n : Int) := by omega
  go_enter Try.func7, Try.ntmps7
  go_wp2_with fail
  refine (DrawValidTasks_any A n c HM.out hnc _ HB.out).mono ?_
  rintro e w1 ⟨B1, m1, d1, zs, rfl, I1, kd, k11, N1a⟩
  have s1 := N1a.le
  have N1 := Lib.hid ((New.refl w).trans N1a); clear N1a
  have HL := Lib.hid I1.len
  have m11 : (m1 : Int) ≤ 11 := by omega
  have m0 : (0 : Int) ≤ (m1 : Int) := by omega
  replace I1 := Lib.hid I1
  cases hv : vtk m1 zs
  · have HV := Lib.hid hv; clear hv
    go_wp2_with fail
    refine (ValidTasks_any B1 m1 d1 zs (by omega) _ I1.out).mono ?_
    rw [HV.out]
    rintro e w2 ⟨rfl, N2a⟩
    have s2 := N2a.le
    have I1 := Lib.hid (I1.out.new N2a)
    have N2 := Lib.hid (N1.out.trans N2a); clear N2a
    go_wp2_with fail
    refine (SpecValidTasks_any B1 m1 d1 zs (by omega) _ I1.out).mono ?_
    rw [HV.out]
    rintro e w3 ⟨rfl, N3a⟩
    have s3 := N3a.le
    have I1 := Lib.hid (I1.out.new N3a)
    have N3 := Lib.hid (N2.out.trans N3a); clear N3a
    go_wp2_with fail
    refine (SpecValidTasks_any B1 m1 d1 zs (by omega) _ I1.out).mono ?_
    rw [HV.out]
    rintro e w4 ⟨rfl, N4a⟩
    have s4 := N4a.le
    have I1 := Lib.hid (I1.out.new N4a)
    have N4 := Lib.hid (N3.out.trans N4a); clear N4a
    go_wp2
    go_ret
    exact ⟨rfl, N4.out⟩
  · have HV := Lib.hid hv
    rcases Nat.eq_zero_or_pos m1 with h0 | h0
    · subst h0; clear hv
      go_wp2_with fail
      refine (ValidTasks_any B1 0 d1 zs (by omega) _ I1.out).mono ?_
      rw [HV.out]
      rintro e w2 ⟨rfl, N2a⟩
      have s2 := N2a.le
      have I1 := Lib.hid (I1.out.new N2a)
      have N2 := Lib.hid (N1.out.trans N2a); clear N2a
      go_wp2_with fail
      refine (SpecValidTasks_any B1 0 d1 zs (by omega) _ I1.out).mono ?_
      rw [HV.out]
      rintro e w3 ⟨rfl, N3a⟩
      have s3 := N3a.le
      have I1 := Lib.hid (I1.out.new N3a)
      have N3 := Lib.hid (N2.out.trans N3a); clear N3a
      go_wp2_with fail
      refine (SpecValidTasks_any B1 0 d1 zs (by omega) _ I1.out).mono ?_
      rw [HV.out]
      rintro e w4 ⟨rfl, N4a⟩
      have s4 := N4a.le
      have I1 := Lib.hid (I1.out.new N4a)
      have N4 := Lib.hid (N3.out.trans N4a); clear N4a
      go_wp2
      go_ret
      exact ⟨rfl, N4.out⟩
    · skip
      go_wp2_with fail
      refine (ValidTasks_any B1 m1 d1 zs (by omega) _ I1.out).mono ?_
      rw [HV.out]
      rintro e w2 ⟨rfl, N2a⟩
      have s2 := N2a.le
      have I1 := Lib.hid (I1.out.new N2a)
      have N2 := Lib.hid (N1.out.trans N2a); clear N2a
      go_wp2_with fail
      refine (SpecValidTasks_any B1 m1 d1 zs (by omega) _ I1.out).mono ?_
      rw [HV.out]
      rintro e w3 ⟨rfl, N3a⟩
      have s3 := N3a.le
      have I1 := Lib.hid (I1.out.new N3a)
      have N3 := Lib.hid (N2.out.trans N3a); clear N3a
      obtain ⟨b, off, rfl, hb, _⟩ := I1.out.at_ h0
      obtain ⟨q, hqM, hq⟩ : ∃ q : Nat, q < m1 ∧ (n : Int) % (m1 : Int) = (q : Int) := ⟨n % m1, Nat.mod_lt _ (by omega), by rw [Int.natCast_emod]⟩
      have DV := Lib.hid (vtk_del hv HL.out hqM)
      have n10 := (vtk_at hv).1
      have M1 : (1 : Int) ≤ (m1 : Int) := by omega
      have q0 : (0 : Int) ≤ (q : Int) := by omega
      have q1 : (q : Int) < (m1 : Int) := by omega
      have sq : IntKind.i64.wrap ((q : Int) + 1) = (q : Int) + 1 := IntWalk.i64_in _ (by omega)
      have mb : ((m1 : Int) == 0) = false := by rw [beq_eq_false_iff_ne]; omega
      have NN := Lib.hid N3.out
      have qd : (q : Int) ≤ (d1 : Int) := by omega
      have md : (m1 : Int) ≤ (d1 : Int) := by omega
      have q2 : (q : Int) + 1 ≤ (m1 : Int) := by omega
      have q3 : (0 : Int) ≤ (q : Int) + 1 := by omega
      have tq : ((q : Int) + 1).toNat = q + 1 := by omega
      have ND : Hid (New w3 w3.drew) := Lib.hid (New.refl _).drew
      have ST := Lib.hid (fun V (hV : New w3 V) => stsFore (I1.out.new hV) (show q ≤ m1 by omega))
      have SU := Lib.hid (fun V (hV : New w3 V) A (hA : q + 1 < m1 → A = some ⟨b, off + (q + 1) * 3, none⟩) => stsAft (A := A) (I1.out.new hV) (show q + 1 ≤ m1 by omega) hA)
      have EW := Lib.hid (OwnTask.empty (lo := w3.drew.heap.size) w3.drew (Nat.le_refl _))
      have VP := Lib.hid (fun (A : Option Addr) (c : Nat) V (h : Sts 3 V A (q + (m1 - (q + 1))) (zs.take (q * 3) ++ zs.drop ((q + 1) * 3))) => (show Calls Try.prog 32 #[.slice A (q + (m1 - (q + 1))) c] V fun e V' => e = .returned (.bool true) ∧ New V V' from by
        have h := ValidTasks_any A (q + (m1 - (q + 1))) c _ (by omega) V h
        rw [DV.out] at h
        exact h))
      have L2 : m1 - (q + 1) + (q + 1) = m1 := by omega
      clear hv hb
      go_wp2
      go_region_held3 (fun w' => True)
        (first | trivial | assumption)
        (first
          | (refine step_appTaskG (by first | rfl | simp [Region.wanted, yielded, go_sem]) (.tmp 35) (.tmp 38) rfl w3.drew.heap.size _ 0 [] rfl EW.out _ q d1 (zs.take (q * 3)) rfl (ST.out _ (ND.out.alloc _)) (by omega) ((New.refl w3.drew).alloc _).le ?_; intro v6 w6 O6 G6 E6; (have M6 := Lib.hid (new_ownTask ((New.refl w3.drew).alloc _) G6 EW.out (Nat.le_refl _))); (have O6 := Lib.hid O6); (rw [Nat.zero_add, List.nil_append] at O6); clear G6 E6)
          | (refine step_appTaskG (by first | rfl | simp [Region.wanted, yielded, go_sem]) (.tmp 39) (.tmp 43) rfl w3.drew.heap.size v6 q _ rfl O6.out _ (m1 - (q + 1)) _ (zs.drop ((q + 1) * 3)) rfl (SU.out _ (ND.out.trans M6.out) _ (fun h => by first | rfl | exact if_neg (by omega))) (by omega) M6.out.le ?_; intro v7 w7 O7 G7 E7; (have M7 := Lib.hid (new_ownTask M6.out G7 O6.out (Nat.le_refl _))); (obtain ⟨A9, c9, rfl, hc9, Z9⟩ := O7.res); (have S9 := Lib.hid (Sts.of_res Z9 O7.2)); clear Z9 G7 O7 E7)
          | (go_at_call 32; refine (VP.out A9 c9 _ S9.out).mono ?_; rintro e w8 ⟨rfl, N8⟩; (have M8 := Lib.hid (M7.out.trans N8)); clear N8 S9; dsimp only))
      all_goals
        go_wp2
      all_goals
        go_ret
        exact ⟨rfl, NN.out.trans (ND.out.trans M8.out)⟩
end Go.Proofs.Ytecnhjofgkhlnaa
