/- The law FnExactDamageOf, walked over what both functions do: whatever the rows, both answers are the same, and the arguments are left alone. Conditions: the arguments can be read; both functions answer alike. -/
import Derived.Test.YtckdokijmlpngaaRectS
import Derived.Test.YtckdokijmlpngaaRectA
namespace Go.Proofs.Ytckdokijmlpngaa
open Go.RowKit

theorem szRect_okDamageOf (A : Option Addr) (n c : Nat) (l : Int) (hl : l ≤ 1048576) (h : (n : Int) ≤ l) (w : World) :
    Calls Try.prog 15 #[.slice A n c, .int .i64 l] w fun e w' => e = .returned (.int .i64 (l - (n : Int))) ∧ w = w' := by
  have k := szRect_ok A n c l.toNat (by omega) (by omega) w
  rwa [Int.toNat_of_nonneg (by omega)] at k
theorem szRect_noDamageOf (A : Option Addr) (n c : Nat) (l : Int) (hn : n ≤ maxLen) (h : l < (n : Int)) (hl : 0 ≤ l) (w : World) :
    Calls Try.prog 15 #[.slice A n c, .int .i64 l] w fun e w' => e = .returned (.int .i64 (-1)) ∧ w = w' := by
  have k := szRect_no A n c l.toNat hn (by omega) w
  rwa [Int.toNat_of_nonneg hl] at k
set_option maxHeartbeats 4000000 in
theorem lawExactDamageOf (Ax : Option Addr) (nx cx : Nat) (xx : List Int) (Ay : Option Addr) (ny cy : Nat) (xy : List Int) (z0 z1 z2 z3 : Int) (z4 : Bool)
    (hI : ∀ (Bx : Option Addr) (mx dx : Nat) (By : Option Addr) (my dy : Nat) (W : World), Sts 4 W Bx mx xx → Sts 4 W By my xy → mx ≤ 1048576 → my ≤ 1048576 → Calls Try.prog 25 #[.slice Bx mx dx, .slice By my dy] W (fun e w' => e = .returned (.tuple #[.agg #[.int .i64 z0, .int .i64 z1, .int .i64 z2, .int .i64 z3], .bool z4]) ∧ New W w'))
    (hS : ∀ (Bx : Option Addr) (mx dx : Nat) (By : Option Addr) (my dy : Nat) (W : World), Sts 4 W Bx mx xx → Sts 4 W By my xy → mx ≤ 1048576 → my ≤ 1048576 → Calls Try.prog 24 #[.slice Bx mx dx, .slice By my dy] W (fun e w' => e = .returned (.tuple #[.agg #[.int .i64 z0, .int .i64 z1, .int .i64 z2, .int .i64 z3], .bool z4]) ∧ New W w'))
    (w : World) (hxx : Sts 4 w Ax nx xx) (hnx : nx ≤ maxLen) (hxy : Sts 4 w Ay ny xy) (hny : ny ≤ maxLen) :
    Calls Try.prog 4 #[.slice Ax nx cx, .slice Ay ny cy] w fun e w' => e = .returned (.bool true) ∧ New w w' := by
  have HXx := Lib.hid hxx; have LXx := Lib.hid hxx.len; have HMx := Lib.hid hnx; unfold maxLen at hnx
  have HXy := Lib.hid hxy; have LXy := Lib.hid hxy.len; have HMy := Lib.hid hny; unfold maxLen at hny
  have HI := Lib.hid hI; have HS := Lib.hid hS
  clear hxx hxy hI hS
  by_cases hbx : 1048576 < nx
  · go_enter Try.func4, Try.ntmps4
    go_wp2_with fail
    refine (szRect_noDamageOf _ _ _ _ HMx.out (by omega) (by omega) _).mono ?_
    rintro e w' ⟨rfl, rfl⟩
    go_wp2
    go_ret
    exact ⟨rfl, by (repeat (first | exact New.refl _ | assumption | refine New.alloc ?_ _ | refine New.drew ?_ | refine New.drewN ?_ _ | refine New.setCell ?_ (by first | omega | (simp; omega) | (simp; done)) _ | refine New.trans ?_ (by assumption)))⟩
  have hmx : nx ≤ 1048576 := by omega
  have hix : (nx : Int) ≤ 1048576 := by omega
  have hjx : (0 : Int) ≤ (nx : Int) := by omega
  by_cases hby : 1048576 < nx + ny
  · go_enter Try.func4, Try.ntmps4
    go_wp2_with fail
    refine (szRect_okDamageOf _ _ _ _ (by omega) (by omega) _).mono ?_
    rintro e w' ⟨rfl, rfl⟩
    go_wp2_with fail
    refine (szRect_noDamageOf _ _ _ _ HMy.out (by omega) (by omega) _).mono ?_
    rintro e w' ⟨rfl, rfl⟩
    go_wp2
    go_ret
    exact ⟨rfl, by (repeat (first | exact New.refl _ | assumption | refine New.alloc ?_ _ | refine New.drew ?_ | refine New.drewN ?_ _ | refine New.setCell ?_ (by first | omega | (simp; omega) | (simp; done)) _ | refine New.trans ?_ (by assumption)))⟩
  have hmy : ny ≤ 1048576 := by omega
  have hiy : (ny : Int) ≤ 1048576 := by omega
  have hjy : (0 : Int) ≤ (ny : Int) := by omega
  go_enter Try.func4, Try.ntmps4
  go_wp2_with fail
  refine (szRect_okDamageOf _ _ _ _ (by omega) (by omega) _).mono ?_
  rintro e w' ⟨rfl, rfl⟩
  go_wp2_with fail
  refine (szRect_okDamageOf _ _ _ _ (by omega) (by omega) _).mono ?_
  rintro e w' ⟨rfl, rfl⟩
  go_wp2_with fail
  refine (toRectS_any Ax nx cx xx hmx _ HXx.out).mono ?_
  rintro e w1 ⟨A1, n1, c1, rfl, l1, r1, N1a⟩
  have s1 := N1a.le
  have N1 := Lib.hid ((New.refl w).trans N1a); clear N1a
  have L1 := Lib.hid l1; have R1 := Lib.hid r1; have b1 : n1 ≤ 1048576 := by have := L1.out; have := LXx.out; omega
  have i1 : (n1 : Int) ≤ 1048576 := by omega
  have j1 : (0 : Int) ≤ (n1 : Int) := by omega
  clear l1 r1
  go_wp2_with fail
  refine (toRectS_any Ay ny cy xy hmy _ (HXy.out.new N1.out)).mono ?_
  rintro e w2 ⟨A2, n2, c2, rfl, l2, r2, N2a⟩
  have s2 := N2a.le
  have R1 := Lib.hid (R1.out.new N2a)
  have N2 := Lib.hid (N1.out.trans N2a); clear N2a
  have L2 := Lib.hid l2; have R2 := Lib.hid r2; have b2 : n2 ≤ 1048576 := by have := L2.out; have := LXy.out; omega
  have i2 : (n2 : Int) ≤ 1048576 := by omega
  have j2 : (0 : Int) ≤ (n2 : Int) := by omega
  clear l2 r2
  go_wp2_with fail
  refine (HS.out _ _ _ _ _ _ _ ((Sts.of_res R1.out L1.out)) ((Sts.of_res R2.out L2.out)) b1 b2).mono ?_
  rintro e w3 ⟨rfl, N3a⟩
  have s3 := N3a.le
  have R1 := Lib.hid (R1.out.new N3a)
  have R2 := Lib.hid (R2.out.new N3a)
  have N3 := Lib.hid (N2.out.trans N3a); clear N3a
  have RZ3 := Lib.hid (Row.oneRect w3 z0 z1 z2 z3 34)
  have R1 := Lib.hid (R1.out.new ((New.refl w3).alloc (.cells #[.int .i64 z0, .int .i64 z1, .int .i64 z2, .int .i64 z3] 34)))
  have R2 := Lib.hid (R2.out.new ((New.refl w3).alloc (.cells #[.int .i64 z0, .int .i64 z1, .int .i64 z2, .int .i64 z3] 34)))
  have M3 := Lib.hid (N3.out.alloc (.cells #[.int .i64 z0, .int .i64 z1, .int .i64 z2, .int .i64 z3] 34))
  have t3 : w3.heap.size < (w3.alloc (.cells #[.int .i64 z0, .int .i64 z1, .int .i64 z2, .int .i64 z3] 34)).heap.size := RZ3.out.lt
  go_wp2_with fail
  refine (toRectS_any Ax nx cx xx hmx _ (HXx.out.new M3.out)).mono ?_
  rintro e w4 ⟨A4, n4, c4, rfl, l4, r4, N4a⟩
  have s4 := N4a.le
  have RZ3 := Lib.hid (RZ3.out.new N4a)
  have N4 := Lib.hid (M3.out.trans N4a); clear N4a
  have L4 := Lib.hid l4; have R4 := Lib.hid r4; have b4 : n4 ≤ 1048576 := by have := L4.out; have := LXx.out; omega
  have i4 : (n4 : Int) ≤ 1048576 := by omega
  have j4 : (0 : Int) ≤ (n4 : Int) := by omega
  clear l4 r4
  go_wp2_with fail
  refine (toRectS_any Ay ny cy xy hmy _ (HXy.out.new N4.out)).mono ?_
  rintro e w5 ⟨A5, n5, c5, rfl, l5, r5, N5a⟩
  have s5 := N5a.le
  have RZ3 := Lib.hid (RZ3.out.new N5a)
  have R4 := Lib.hid (R4.out.new N5a)
  have N5 := Lib.hid (N4.out.trans N5a); clear N5a
  have L5 := Lib.hid l5; have R5 := Lib.hid r5; have b5 : n5 ≤ 1048576 := by have := L5.out; have := LXy.out; omega
  have i5 : (n5 : Int) ≤ 1048576 := by omega
  have j5 : (0 : Int) ≤ (n5 : Int) := by omega
  clear l5 r5
  go_wp2_with fail
  refine (HI.out _ _ _ _ _ _ _ ((Sts.of_res R4.out L4.out)) ((Sts.of_res R5.out L5.out)) b4 b5).mono ?_
  rintro e w6 ⟨rfl, N6a⟩
  have s6 := N6a.le
  have RZ3 := Lib.hid (RZ3.out.new N6a)
  have R4 := Lib.hid (R4.out.new N6a)
  have R5 := Lib.hid (R5.out.new N6a)
  have N6 := Lib.hid (N5.out.trans N6a); clear N6a
  have RZ6 := Lib.hid (Row.oneRect w6 z0 z1 z2 z3 34)
  have RZ3 := Lib.hid (RZ3.out.new ((New.refl w6).alloc (.cells #[.int .i64 z0, .int .i64 z1, .int .i64 z2, .int .i64 z3] 34)))
  have R4 := Lib.hid (R4.out.new ((New.refl w6).alloc (.cells #[.int .i64 z0, .int .i64 z1, .int .i64 z2, .int .i64 z3] 34)))
  have R5 := Lib.hid (R5.out.new ((New.refl w6).alloc (.cells #[.int .i64 z0, .int .i64 z1, .int .i64 z2, .int .i64 z3] 34)))
  have M6 := Lib.hid (N6.out.alloc (.cells #[.int .i64 z0, .int .i64 z1, .int .i64 z2, .int .i64 z3] 34))
  have t6 : w6.heap.size < (w6.alloc (.cells #[.int .i64 z0, .int .i64 z1, .int .i64 z2, .int .i64 z3] 34)).heap.size := RZ6.out.lt
  have a3 := RZ3.out.c 0 (by simp); have e3 := RZ3.out.c 1 (by simp); have p3 := RZ3.out.c 2 (by simp); have q3 := RZ3.out.c 3 (by simp)
  simp only [List.getD_cons_zero, List.getD_cons_succ] at a3 e3 p3 q3
  have a6 := RZ6.out.c 0 (by simp); have e6 := RZ6.out.c 1 (by simp); have p6 := RZ6.out.c 2 (by simp); have q6 := RZ6.out.c 3 (by simp)
  simp only [List.getD_cons_zero, List.getD_cons_succ] at a6 e6 p6 q6
  go_wp2_with fail
  refine (eqRect_same z0 z1 z2 z3 _).mono ?_
  rintro e w7 ⟨rfl, N7a⟩
  have s7 := N7a.le
  have RZ3 := Lib.hid (RZ3.out.new N7a)
  have R4 := Lib.hid (R4.out.new N7a)
  have R5 := Lib.hid (R5.out.new N7a)
  have RZ6 := Lib.hid (RZ6.out.new N7a)
  have N7 := Lib.hid (M6.out.trans N7a); clear N7a
  clear a3 e3 p3 q3
  clear a6 e6 p6 q6
  go_wp2_with fail
  refine (toRectS_any Ax nx cx xx hmx _ (HXx.out.new N7.out)).mono ?_
  rintro e w8 ⟨A8, n8, c8, rfl, l8, r8, N8a⟩
  have s8 := N8a.le
  have RZ3 := Lib.hid (RZ3.out.new N8a)
  have R4 := Lib.hid (R4.out.new N8a)
  have R5 := Lib.hid (R5.out.new N8a)
  have RZ6 := Lib.hid (RZ6.out.new N8a)
  have N8 := Lib.hid (N7.out.trans N8a); clear N8a
  have L8 := Lib.hid l8; have R8 := Lib.hid r8; have b8 : n8 ≤ 1048576 := by have := L8.out; have := LXx.out; omega
  have i8 : (n8 : Int) ≤ 1048576 := by omega
  have j8 : (0 : Int) ≤ (n8 : Int) := by omega
  clear l8 r8
  go_wp2_with fail
  refine (eqRectS_any _ _ _ _ _ _ _ b4 b8 _ (Sts.of_res R4.out L4.out) (Sts.of_res R8.out L8.out)).mono ?_
  rintro e w9 ⟨rfl, N9a⟩
  have s9 := N9a.le
  have RZ3 := Lib.hid (RZ3.out.new N9a)
  have R4 := Lib.hid (R4.out.new N9a)
  have R5 := Lib.hid (R5.out.new N9a)
  have RZ6 := Lib.hid (RZ6.out.new N9a)
  have R8 := Lib.hid (R8.out.new N9a)
  have N9 := Lib.hid (N8.out.trans N9a); clear N9a
  go_wp2_with fail
  refine (toRectS_any Ay ny cy xy hmy _ (HXy.out.new N9.out)).mono ?_
  rintro e w10 ⟨A10, n10, c10, rfl, l10, r10, N10a⟩
  have s10 := N10a.le
  have RZ3 := Lib.hid (RZ3.out.new N10a)
  have R4 := Lib.hid (R4.out.new N10a)
  have R5 := Lib.hid (R5.out.new N10a)
  have RZ6 := Lib.hid (RZ6.out.new N10a)
  have N10 := Lib.hid (N9.out.trans N10a); clear N10a
  have L10 := Lib.hid l10; have R10 := Lib.hid r10; have b10 : n10 ≤ 1048576 := by have := L10.out; have := LXy.out; omega
  have i10 : (n10 : Int) ≤ 1048576 := by omega
  have j10 : (0 : Int) ≤ (n10 : Int) := by omega
  clear l10 r10
  go_wp2_with fail
  refine (eqRectS_any _ _ _ _ _ _ _ b5 b10 _ (Sts.of_res R5.out L5.out) (Sts.of_res R10.out L10.out)).mono ?_
  rintro e w11 ⟨rfl, N11a⟩
  have s11 := N11a.le
  have RZ3 := Lib.hid (RZ3.out.new N11a)
  have R4 := Lib.hid (R4.out.new N11a)
  have R5 := Lib.hid (R5.out.new N11a)
  have RZ6 := Lib.hid (RZ6.out.new N11a)
  have R10 := Lib.hid (R10.out.new N11a)
  have N11 := Lib.hid (N10.out.trans N11a); clear N11a
  go_wp2
  go_ret
  exact ⟨rfl, N11.out⟩
end Go.Proofs.Ytckdokijmlpngaa
