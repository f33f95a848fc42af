/- The law FnRowsUsedMore, walked: a column more does not need more rows. Condition: the code can be read. -/
import Derived.Test.YtlmamglckamjjaaDrawAu
import Derived.Test.YtlmamglckamjjaaAutP
import Derived.Test.YtlmamglckamjjaaAutI
import Derived.Test.YtlmamglckamjjaaAutS
import Derived.Test.YtlmamglckamjjaaApp
namespace Go.Proofs.Ytlmamglckamjjaa
open Go.RowKit

set_option maxHeartbeats 4000000 in
theorem lawRowsUsedMore (A : Option Addr) (n c : Nat) (hn : n ≤ maxLen) (hnc : n ≤ c) (w : World) (hb : Bytes w A n) :
    Calls Try.prog 5 #[.slice A n c] w fun e w' => e = .returned (.bool true) ∧ New w w' := by
  have HB := Lib.hid hb; have HM := Lib.hid hn
  clear hb
  unfold maxLen at hn
  by_cases hbig : 1048576 < n
  · go_enter Try.func5, Try.ntmps5
    go_wp2
    go_ret
    exact ⟨rfl, by (repeat (first | exact New.refl _ | assumption | refine New.alloc ?_ _ | refine New.drew ?_ | refine New.drewN ?_ _ | refine New.setCell ?_ (by first | omega | (simp; omega) | (simp; done)) _ | refine New.trans ?_ (by assumption)))⟩
  have hm : (n : Int) ≤ 1048576 := by omega
  have hm0 : (0 : Int) ≤ (n : Int) := by omega
  go_enter Try.func5, Try.ntmps5
  go_wp2_with fail
  refine (DrawRowsUsed_any A n c HM.out hnc _ HB.out).mono ?_
  rintro e w1 ⟨B1, m1, d1, ws, cl, rfl, I1, l14, mc, S1, cb, PB, N1a⟩
  have s1 := N1a.le
  have N1 := Lib.hid ((New.refl w).trans N1a); clear N1a
  replace I1 := Lib.hid I1; replace S1 := Lib.hid S1
  obtain ⟨cb0, cb1⟩ := cb
  have y0 : (0 : Int) ≤ (m1 : Int) := by omega
  have y1 : (m1 : Int) ≤ 14 := by omega
  have LY := Lib.hid I1.out.len
  have C1 := Lib.hid (fun W (hW : New w1 W) => RowsUsed_any B1 m1 d1 ws cl (by omega) W (I1.out.new hW))
  have C2 := Lib.hid (fun W (hW : New w1 W) => SRowsUsed_any B1 m1 d1 ws cl (by omega) W (I1.out.new hW))
  cases hv : apOk ws cl
  · have er : ruA ws cl = -1 := if_neg (by rw [hv]; simp)
    simp only [er] at C1 C2
    clear hv er
    go_wp2_with fail
    refine (C1.out _ (New.refl _)).mono ?_
    rintro e w2 ⟨rfl, N2a⟩
    have NA := Lib.hid N2a
    have N2 := Lib.hid (N1.out.trans N2a); clear N2a
    go_wp2_with fail
    refine (C2.out _ NA.out).mono ?_
    rintro e w3 ⟨rfl, N3a⟩
    have NB := Lib.hid (NA.out.trans N3a)
    have N3 := Lib.hid (N2.out.trans N3a); clear N3a
    go_wp2_with fail
    refine (C2.out _ NB.out).mono ?_
    rintro e w4 ⟨rfl, N4a⟩
    have N4 := Lib.hid (N3.out.trans N4a); clear N4a
    go_wp2
    go_ret
    exact ⟨rfl, N4.out⟩
  have rb := rowsN_le (apOk_iff.1 hv).1.1 (apOk_iff.1 hv).2.2 (n := ws.length) (Nat.le_refl _)
  have er : ruA ws cl = rowsN ws cl ws.length := if_pos hv
  rw [← er, LY.out] at rb
  obtain ⟨rb0, rb1⟩ := rb
  by_cases h8 : cl = 8
  · subst h8
    generalize ruA ws 8 = R at *
    clear hv er
    go_wp2_with fail
    refine (C1.out _ (New.refl _)).mono ?_
    rintro e w2 ⟨rfl, N2a⟩
    have NA := Lib.hid N2a
    have N2 := Lib.hid (N1.out.trans N2a); clear N2a
    go_wp2_with fail
    refine (C2.out _ NA.out).mono ?_
    rintro e w3 ⟨rfl, N3a⟩
    have NB := Lib.hid (NA.out.trans N3a)
    have N3 := Lib.hid (N2.out.trans N3a); clear N3a
    go_wp2_with fail
    refine (C2.out _ NB.out).mono ?_
    rintro e w4 ⟨rfl, N4a⟩
    have N4 := Lib.hid (N3.out.trans N4a); clear N4a
    go_wp2
    go_ret
    exact ⟨rfl, N4.out⟩
  · have h8b : (cl == 8) = false := by simpa using h8
    have hm2 := ru_more hv (by have := (apOk_iff.1 hv).1.2; omega)
    have C3 := Lib.hid (fun W (hW : New w1 W) => RowsUsed_any B1 m1 d1 ws (cl + 1) (by omega) W (I1.out.new hW))
    generalize ruA ws cl = R at *
    generalize ruA ws (cl + 1) = R2 at *
    have hd : decide (R2 ≤ R) = true := decide_eq_true hm2
    clear hv er h8
    go_wp2_with fail
    refine (C1.out _ (New.refl _)).mono ?_
    rintro e w2 ⟨rfl, N2a⟩
    have NA := Lib.hid N2a
    have N2 := Lib.hid (N1.out.trans N2a); clear N2a
    go_wp2_with fail
    refine (C2.out _ NA.out).mono ?_
    rintro e w3 ⟨rfl, N3a⟩
    have NB := Lib.hid (NA.out.trans N3a)
    have N3 := Lib.hid (N2.out.trans N3a); clear N3a
    go_wp2_with fail
    refine (C3.out _ NB.out).mono ?_
    rintro e w4 ⟨rfl, N4a⟩
    have N4 := Lib.hid (N3.out.trans N4a); clear N4a
    go_wp2
    go_ret
    exact ⟨rfl, N4.out⟩
end Go.Proofs.Ytlmamglckamjjaa
