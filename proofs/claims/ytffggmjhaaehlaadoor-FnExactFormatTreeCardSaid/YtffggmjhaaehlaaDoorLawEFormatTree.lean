/- The law FnExactFormatTree, walked over what both functions do: whatever the tree, both answers are the same, and the arguments are left alone. Conditions: the arguments can be read; both functions answer alike. -/
import Derived.Test.YtffggmjhaaehlaaDoorBoxS
import Derived.Test.YtffggmjhaaehlaaDoorTxtD
namespace Go.Proofs.YtffggmjhaaehlaaDoor
open Go.RowKit

set_option maxHeartbeats 4000000 in
theorem lawExactFormatTree (Al : Option Addr) (nl cl : Nat) (xl : List Int) (z : List UInt8) (w : World)
    (hI : ∀ (Bl : Option Addr) (ml dl : Nat) (W : World), New w W → Sts 9 W Bl ml xl → ml ≤ 1048576 → Calls Tryd.prog 9 #[.slice Bl ml dl] W (fun e w' => e = .returned (str z) ∧ New W w'))
    (hS : ∀ (Bl : Option Addr) (ml dl : Nat) (W : World), New w W → Sts 9 W Bl ml xl → ml ≤ 1048576 → Calls Tryd.prog 7 #[.slice Bl ml dl] W (fun e w' => e = .returned (str z) ∧ New W w'))
    (hxl : Sts 9 w Al nl xl) (hnl : nl ≤ maxLen) :
    Calls Tryd.prog 3 #[.slice Al nl cl] w fun e w' => e = .returned (.bool true) ∧ New w w' := by
  have HXl := Lib.hid hxl; have LXl := Lib.hid hxl.len; have HMl := Lib.hid hnl; unfold maxLen at hnl
  have HI := Lib.hid hI; have HS := Lib.hid hS
  clear hxl hI hS
  by_cases hbl : 1048576 < nl
  · go_enter Tryd.func3, Tryd.ntmps3
    go_wp2_with fail
    refine (szBox_no _ _ _ 1048576 HMl.out (by omega) _).mono ?_
    rintro e w' ⟨rfl, rfl⟩
    go_wp2
    go_ret
    exact ⟨rfl, by (repeat (first | exact New.refl _ | assumption | refine New.alloc ?_ _ | refine New.drew ?_ | refine New.drewN ?_ _ | refine New.setCell ?_ (by first | omega | (simp; omega) | (simp; done)) _ | refine New.trans ?_ (by assumption)))⟩
  have hml : nl ≤ 1048576 := by omega
  have hil : (nl : Int) ≤ 1048576 := by omega
  have hjl : (0 : Int) ≤ (nl : Int) := by omega
  go_enter Tryd.func3, Tryd.ntmps3
  go_wp2_with fail
  refine (szBox_ok _ _ _ 1048576 (by omega) (by omega) _).mono ?_
  rintro e w' ⟨rfl, rfl⟩
  go_wp2_with fail
  refine (toBoxS_any Al nl cl xl hml _ HXl.out).mono ?_
  rintro e w1 ⟨A1, n1, c1, rfl, l1, r1, N1a⟩
  have s1 := N1a.le
  have N1 := Lib.hid ((New.refl w).trans N1a); clear N1a
  have L1 := Lib.hid l1; have R1 := Lib.hid r1; have b1 : n1 ≤ 1048576 := by have := L1.out; have := LXl.out; omega
  have i1 : (n1 : Int) ≤ 1048576 := by omega
  have j1 : (0 : Int) ≤ (n1 : Int) := by omega
  clear l1 r1
  go_wp2_with fail
  refine (HS.out _ _ _ _ N1.out ((Sts.of_res R1.out L1.out)) b1).mono ?_
  rintro e w2 ⟨rfl, N2a⟩
  have s2 := N2a.le
  have R1 := Lib.hid (R1.out.new N2a)
  have N2 := Lib.hid (N1.out.trans N2a); clear N2a
  go_wp2_with fail
  refine (toBoxS_any Al nl cl xl hml _ (HXl.out.new N2.out)).mono ?_
  rintro e w3 ⟨A3, n3, c3, rfl, l3, r3, N3a⟩
  have s3 := N3a.le
  have N3 := Lib.hid (N2.out.trans N3a); clear N3a
  have L3 := Lib.hid l3; have R3 := Lib.hid r3; have b3 : n3 ≤ 1048576 := by have := L3.out; have := LXl.out; omega
  have i3 : (n3 : Int) ≤ 1048576 := by omega
  have j3 : (0 : Int) ≤ (n3 : Int) := by omega
  clear l3 r3
  go_wp2_with fail
  refine (HI.out _ _ _ _ N3.out ((Sts.of_res R3.out L3.out)) b3).mono ?_
  rintro e w4 ⟨rfl, N4a⟩
  have s4 := N4a.le
  have R3 := Lib.hid (R3.out.new N4a)
  have N4 := Lib.hid (N3.out.trans N4a); clear N4a
  go_wp2_with fail
  refine (toBoxS_any Al nl cl xl hml _ (HXl.out.new N4.out)).mono ?_
  rintro e w5 ⟨A5, n5, c5, rfl, l5, r5, N5a⟩
  have s5 := N5a.le
  have R3 := Lib.hid (R3.out.new N5a)
  have N5 := Lib.hid (N4.out.trans N5a); clear N5a
  have L5 := Lib.hid l5; have R5 := Lib.hid r5; have b5 : n5 ≤ 1048576 := by have := L5.out; have := LXl.out; omega
  have i5 : (n5 : Int) ≤ 1048576 := by omega
  have j5 : (0 : Int) ≤ (n5 : Int) := by omega
  clear l5 r5
  go_wp2_with fail
  refine (eqBoxS_any _ _ _ _ _ _ _ b3 b5 _ (Sts.of_res R3.out L3.out) (Sts.of_res R5.out L5.out)).mono ?_
  rintro e w6 ⟨rfl, N6a⟩
  have s6 := N6a.le
  have R3 := Lib.hid (R3.out.new N6a)
  have R5 := Lib.hid (R5.out.new N6a)
  have N6 := Lib.hid (N5.out.trans N6a); clear N6a
  go_wp2
  go_ret
  exact ⟨rfl, N6.out⟩
end Go.Proofs.YtffggmjhaaehlaaDoor
