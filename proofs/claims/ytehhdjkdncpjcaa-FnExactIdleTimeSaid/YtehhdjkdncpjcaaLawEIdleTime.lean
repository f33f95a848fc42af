/- The law FnExactIdleTime, walked over what both functions do: whatever the costs and the budgets, both answers are the same, and the arguments are left alone. Conditions: the arguments can be read; both functions answer alike. -/
import Derived.Test.YtehhdjkdncpjcaaRes
namespace Go.Proofs.Ytehhdjkdncpjcaa
open Go.RowKit

set_option maxHeartbeats 4000000 in
theorem lawExactIdleTime (Acs : Option Addr) (ncs ccs : Nat) (xcs : List Int) (Abs : Option Addr) (nbs cbs : Nat) (xbs : List Int) (z : Int)
    (hI : ∀ (Bcs : Option Addr) (mcs dcs : Nat) (Bbs : Option Addr) (mbs dbs : Nat) (W : World), Ints W Bcs mcs xcs → Ints W Bbs mbs xbs → mcs ≤ 1048576 → mbs ≤ 1048576 → Calls Try.prog 26 #[.slice Bcs mcs dcs, .slice Bbs mbs dbs] W (fun e w' => e = .returned (.int .i64 z) ∧ New W w'))
    (hS : ∀ (Bcs : Option Addr) (mcs dcs : Nat) (Bbs : Option Addr) (mbs dbs : Nat) (W : World), Ints W Bcs mcs xcs → Ints W Bbs mbs xbs → mcs ≤ 1048576 → mbs ≤ 1048576 → Calls Try.prog 25 #[.slice Bcs mcs dcs, .slice Bbs mbs dbs] W (fun e w' => e = .returned (.int .i64 z) ∧ New W w'))
    (w : World) (hxcs : Ints w Acs ncs xcs) (hncs : ncs ≤ maxLen) (hxbs : Ints w Abs nbs xbs) (hnbs : nbs ≤ maxLen) :
    Calls Try.prog 6 #[.slice Acs ncs ccs, .slice Abs nbs cbs] w fun e w' => e = .returned (.bool true) ∧ New w w' := by
  have HXcs := Lib.hid hxcs; have LXcs := Lib.hid hxcs.len; have HMcs := Lib.hid hncs; unfold maxLen at hncs
  have HXbs := Lib.hid hxbs; have LXbs := Lib.hid hxbs.len; have HMbs := Lib.hid hnbs; unfold maxLen at hnbs
  have HI := Lib.hid hI; have HS := Lib.hid hS
  clear hxcs hxbs hI hS
  by_cases hbcs : 1048576 < ncs
  · go_enter Try.func6, Try.ntmps6
    go_wp2
    go_ret
    exact ⟨rfl, by (repeat (first | exact New.refl _ | assumption | refine New.alloc ?_ _ | refine New.drew ?_ | refine New.drewN ?_ _ | refine New.setCell ?_ (by first | omega | (simp; omega) | (simp; done)) _ | refine New.trans ?_ (by assumption)))⟩
  have hmcs : ncs ≤ 1048576 := by omega
  have hics : (ncs : Int) ≤ 1048576 := by omega
  have hjcs : (0 : Int) ≤ (ncs : Int) := by omega
  by_cases hbbs : 1048576 < nbs
  · go_enter Try.func6, Try.ntmps6
    go_wp2
    go_ret
    exact ⟨rfl, by (repeat (first | exact New.refl _ | assumption | refine New.alloc ?_ _ | refine New.drew ?_ | refine New.drewN ?_ _ | refine New.setCell ?_ (by first | omega | (simp; omega) | (simp; done)) _ | refine New.trans ?_ (by assumption)))⟩
  have hmbs : nbs ≤ 1048576 := by omega
  have hibs : (nbs : Int) ≤ 1048576 := by omega
  have hjbs : (0 : Int) ≤ (nbs : Int) := by omega
  go_enter Try.func6, Try.ntmps6
  go_wp2_with fail
  refine (toRes_any Acs ncs ccs xcs hmcs _ HXcs.out).mono ?_
  rintro e w1 ⟨A1, n1, c1, rfl, l1, r1, N1a⟩
  have s1 := N1a.le
  have N1 := Lib.hid ((New.refl w).trans N1a); clear N1a
  have L1 := Lib.hid l1; have R1 := Lib.hid r1; have b1 : n1 ≤ 1048576 := by have := L1.out; have := LXcs.out; omega
  have i1 : (n1 : Int) ≤ 1048576 := by omega
  have j1 : (0 : Int) ≤ (n1 : Int) := by omega
  clear l1 r1
  go_wp2_with fail
  refine (toRes_any Abs nbs cbs xbs hmbs _ (HXbs.out.new N1.out)).mono ?_
  rintro e w2 ⟨A2, n2, c2, rfl, l2, r2, N2a⟩
  have s2 := N2a.le
  have R1 := Lib.hid (R1.out.new N2a)
  have N2 := Lib.hid (N1.out.trans N2a); clear N2a
  have L2 := Lib.hid l2; have R2 := Lib.hid r2; have b2 : n2 ≤ 1048576 := by have := L2.out; have := LXbs.out; omega
  have i2 : (n2 : Int) ≤ 1048576 := by omega
  have j2 : (0 : Int) ≤ (n2 : Int) := by omega
  clear l2 r2
  go_wp2_with fail
  refine (HS.out _ _ _ _ _ _ _ (R1.out.ints L1.out) (R2.out.ints L2.out) b1 b2).mono ?_
  rintro e w3 ⟨rfl, N3a⟩
  have s3 := N3a.le
  have R1 := Lib.hid (R1.out.new N3a)
  have R2 := Lib.hid (R2.out.new N3a)
  have N3 := Lib.hid (N2.out.trans N3a); clear N3a
  go_wp2_with fail
  refine (toRes_any Acs ncs ccs xcs hmcs _ (HXcs.out.new N3.out)).mono ?_
  rintro e w4 ⟨A4, n4, c4, rfl, l4, r4, N4a⟩
  have s4 := N4a.le
  have N4 := Lib.hid (N3.out.trans N4a); clear N4a
  have L4 := Lib.hid l4; have R4 := Lib.hid r4; have b4 : n4 ≤ 1048576 := by have := L4.out; have := LXcs.out; omega
  have i4 : (n4 : Int) ≤ 1048576 := by omega
  have j4 : (0 : Int) ≤ (n4 : Int) := by omega
  clear l4 r4
  go_wp2_with fail
  refine (toRes_any Abs nbs cbs xbs hmbs _ (HXbs.out.new N4.out)).mono ?_
  rintro e w5 ⟨A5, n5, c5, rfl, l5, r5, N5a⟩
  have s5 := N5a.le
  have R4 := Lib.hid (R4.out.new N5a)
  have N5 := Lib.hid (N4.out.trans N5a); clear N5a
  have L5 := Lib.hid l5; have R5 := Lib.hid r5; have b5 : n5 ≤ 1048576 := by have := L5.out; have := LXbs.out; omega
  have i5 : (n5 : Int) ≤ 1048576 := by omega
  have j5 : (0 : Int) ≤ (n5 : Int) := by omega
  clear l5 r5
  go_wp2_with fail
  refine (HI.out _ _ _ _ _ _ _ (R4.out.ints L4.out) (R5.out.ints L5.out) b4 b5).mono ?_
  rintro e w6 ⟨rfl, N6a⟩
  have s6 := N6a.le
  have R4 := Lib.hid (R4.out.new N6a)
  have R5 := Lib.hid (R5.out.new N6a)
  have N6 := Lib.hid (N5.out.trans N6a); clear N6a
  go_wp2_with fail
  refine (toRes_any Acs ncs ccs xcs hmcs _ (HXcs.out.new N6.out)).mono ?_
  rintro e w7 ⟨A7, n7, c7, rfl, l7, r7, N7a⟩
  have s7 := N7a.le
  have R4 := Lib.hid (R4.out.new N7a)
  have R5 := Lib.hid (R5.out.new N7a)
  have N7 := Lib.hid (N6.out.trans N7a); clear N7a
  have L7 := Lib.hid l7; have R7 := Lib.hid r7; have b7 : n7 ≤ 1048576 := by have := L7.out; have := LXcs.out; omega
  have i7 : (n7 : Int) ≤ 1048576 := by omega
  have j7 : (0 : Int) ≤ (n7 : Int) := by omega
  clear l7 r7
  go_wp2_with fail
  refine (eqRes_any _ _ _ _ _ _ _ _ b4 b7 _ (R4.out.ints L4.out) (R7.out.ints L7.out) rfl).mono ?_
  rintro e w8 ⟨rfl, N8a⟩
  have s8 := N8a.le
  have R4 := Lib.hid (R4.out.new N8a)
  have R5 := Lib.hid (R5.out.new N8a)
  have R7 := Lib.hid (R7.out.new N8a)
  have N8 := Lib.hid (N7.out.trans N8a); clear N8a
  go_wp2_with fail
  refine (toRes_any Abs nbs cbs xbs hmbs _ (HXbs.out.new N8.out)).mono ?_
  rintro e w9 ⟨A9, n9, c9, rfl, l9, r9, N9a⟩
  have s9 := N9a.le
  have R4 := Lib.hid (R4.out.new N9a)
  have R5 := Lib.hid (R5.out.new N9a)
  have N9 := Lib.hid (N8.out.trans N9a); clear N9a
  have L9 := Lib.hid l9; have R9 := Lib.hid r9; have b9 : n9 ≤ 1048576 := by have := L9.out; have := LXbs.out; omega
  have i9 : (n9 : Int) ≤ 1048576 := by omega
  have j9 : (0 : Int) ≤ (n9 : Int) := by omega
  clear l9 r9
  go_wp2_with fail
  refine (eqRes_any _ _ _ _ _ _ _ _ b5 b9 _ (R5.out.ints L5.out) (R9.out.ints L9.out) rfl).mono ?_
  rintro e w10 ⟨rfl, N10a⟩
  have s10 := N10a.le
  have R4 := Lib.hid (R4.out.new N10a)
  have R5 := Lib.hid (R5.out.new N10a)
  have R9 := Lib.hid (R9.out.new N10a)
  have N10 := Lib.hid (N9.out.trans N10a); clear N10a
  go_wp2
  go_ret
  exact ⟨rfl, N10.out⟩
end Go.Proofs.Ytehhdjkdncpjcaa
