/- The drawn arguments of the functions on buffers. Condition: the code can be read. -/
import Derived.Test.YtbnelakllfbjiaaDrawB
import Derived.Deep.RegionHeld3
import Derived.Deep.Cut
namespace Go.Proofs.Ytbnelakllfbjiaa
open Go.RowKit

/-- What drawing buffers leaves. -/
def DrawnF (w : World) (e : Ending) (w' : World) : Prop :=
  ∃ (B : Option Addr) (n c : Nat) (C : Option Addr) (k d : Nat) (v : Int) (xs ys : List Int), e = .returned (.agg #[.slice B n c, .slice C k d, .int .i64 v]) ∧ Ints w' B n xs ∧ Ints w' C k ys ∧ n ≤ 100 ∧ k ≤ 100 ∧ New w w'
def DrawnF1 (w : World) (e : Ending) (w' : World) : Prop :=
  ∃ (B : Option Addr) (n c : Nat) (C : Option Addr) (k d : Nat) (v : Int) (xs ys : List Int) (x : Int), e = .returned (.tuple #[.agg #[.slice B n c, .slice C k d, .int .i64 v], .int .i64 x]) ∧ Ints w' B n xs ∧ Ints w' C k ys ∧ n ≤ 100 ∧ k ≤ 100 ∧ New w w'
def DrawnF2 (w : World) (e : Ending) (w' : World) : Prop :=
  ∃ (B : Option Addr) (n c : Nat) (C : Option Addr) (k d : Nat) (v : Int) (xs ys : List Int) (x z : Int), e = .returned (.tuple #[.agg #[.slice B n c, .slice C k d, .int .i64 v], .int .i64 x, .int .i64 z]) ∧ Ints w' B n xs ∧ Ints w' C k ys ∧ n ≤ 100 ∧ k ≤ 100 ∧ New w w'
set_option maxRecDepth 100000 in
set_option maxHeartbeats 4000000 in
theorem DrawSwapBuffers_any (A : Option Addr) (n c : Nat) (hn : n ≤ maxLen) (hnc : n ≤ c) (w : World) (hb : Bytes w A n) :
    Calls Try.prog 28 #[.slice A n c] w (DrawnF w) := by
  have N0 := Lib.hid (show New w (w.alloc (.cells #[.slice none 0 0, .slice none 0 0, .int .i64 0] 25)) by (repeat (first | exact New.refl _ | assumption | refine New.alloc ?_ _ | refine New.drew ?_ | refine New.drewN ?_ _ | refine New.setCell ?_ (by first | omega | (simp; omega) | (simp; done)) _ | refine New.trans ?_ (by assumption))))
  have HB := Lib.hid (hb.new N0.out)
  have RZ := Lib.hid (B3.laid w (.slice none 0 0) (.slice none 0 0) (.int .i64 0) 25)
  clear hb
  go_enter Try.func28, Try.ntmps28
  go_wp2_with fail
  refine (newReader_any A n c hn hnc _ HB.out).mono ?_
  rintro e w1 ⟨rfl, ⟨m, hm, R1⟩, N1, z1⟩
  have za : w.heap.size + 1 = (w.alloc (.cells #[.slice none 0 0, .slice none 0 0, .int .i64 0] 25)).heap.size := by simp
  rw [← za] at R1 z1
  have R1 := Lib.hid R1
  have RZ := Lib.hid (RZ.out.new N1); have N1 := Lib.hid (N0.out.trans N1)
  clear za
  go_wp2_with fail
  refine (anyBuffers_any _ A m 0 (by omega) hm _ R1.out).mono ?_
  rintro e w2 ⟨B, n1, c1, C, k, d, v, xs, ys, rfl, I2, n20, k20, ⟨q2, lq2, R2⟩, G2⟩
  have z2 := G2.size
  have RZ := Lib.hid (RZ.out.grown G2 (fun e => by have := Option.some.inj e; omega))
  have N2 := Lib.hid (new_only N1.out (by omega) G2)
  have I2 := Lib.hid I2; have R2 := Lib.hid R2
  clear G2
  obtain ⟨_, r0, r1, r2, rf0, rf1, rf2⟩ := RZ.out
  go_wp2
  have F := Lib.hid (((RZ.out.set0 (.slice B n1 c1)).set1 (.slice C k d)).set2 (.int .i64 v))
  have K := Lib.hid (show Chg 0 w1.heap.size w2 _ from ((((Chg.set w2 w.heap.size 0 (.slice B n1 c1)).trans (Chg.set _ w.heap.size 1 (.slice C k d))).trans (Chg.set _ w.heap.size 2 (.int .i64 v))).mono (Nat.zero_le _) (by omega)))
  have NF := Lib.hid (New.setCell (p := ⟨w.heap.size, 2, none⟩) (New.setCell (p := ⟨w.heap.size, 1, none⟩) (New.setCell (p := ⟨w.heap.size, 0, none⟩) N2.out (Nat.le_refl _) (.slice B n1 c1)) (Nat.le_refl _) (.slice C k d)) (Nat.le_refl _) (.int .i64 v))
  generalize (((w2.setCell ⟨w.heap.size, 0, none⟩ (.slice B n1 c1)).setCell ⟨w.heap.size, 1, none⟩ (.slice C k d)).setCell ⟨w.heap.size, 2, none⟩ (.int .i64 v)) = W at F K NF ⊢
  refine bodyPost_ret (v := .agg #[.slice B n1 c1, .slice C k d, .int .i64 v]) (by simp [results, Try.results28, go_sem, F.out.c0, F.out.c1, F.out.c2]) rfl ?_
  exact ⟨B, n1, c1, C, k, d, v, xs, ys, rfl, (I2.out _ K.out).1, (I2.out _ K.out).2, n20, k20, NF.out⟩
set_option maxRecDepth 100000 in
set_option maxHeartbeats 4000000 in
theorem DrawDropBack_any (A : Option Addr) (n c : Nat) (hn : n ≤ maxLen) (hnc : n ≤ c) (w : World) (hb : Bytes w A n) :
    Calls Try.prog 15 #[.slice A n c] w (DrawnF w) := by
  have N0 := Lib.hid (show New w (w.alloc (.cells #[.slice none 0 0, .slice none 0 0, .int .i64 0] 25)) by (repeat (first | exact New.refl _ | assumption | refine New.alloc ?_ _ | refine New.drew ?_ | refine New.drewN ?_ _ | refine New.setCell ?_ (by first | omega | (simp; omega) | (simp; done)) _ | refine New.trans ?_ (by assumption))))
  have HB := Lib.hid (hb.new N0.out)
  have RZ := Lib.hid (B3.laid w (.slice none 0 0) (.slice none 0 0) (.int .i64 0) 25)
  clear hb
  go_enter Try.func15, Try.ntmps15
  go_wp2_with fail
  refine (newReader_any A n c hn hnc _ HB.out).mono ?_
  rintro e w1 ⟨rfl, ⟨m, hm, R1⟩, N1, z1⟩
  have za : w.heap.size + 1 = (w.alloc (.cells #[.slice none 0 0, .slice none 0 0, .int .i64 0] 25)).heap.size := by simp
  rw [← za] at R1 z1
  have R1 := Lib.hid R1
  have RZ := Lib.hid (RZ.out.new N1); have N1 := Lib.hid (N0.out.trans N1)
  clear za
  go_wp2_with fail
  refine (anyBuffers_any _ A m 0 (by omega) hm _ R1.out).mono ?_
  rintro e w2 ⟨B, n1, c1, C, k, d, v, xs, ys, rfl, I2, n20, k20, ⟨q2, lq2, R2⟩, G2⟩
  have z2 := G2.size
  have RZ := Lib.hid (RZ.out.grown G2 (fun e => by have := Option.some.inj e; omega))
  have N2 := Lib.hid (new_only N1.out (by omega) G2)
  have I2 := Lib.hid I2; have R2 := Lib.hid R2
  clear G2
  obtain ⟨_, r0, r1, r2, rf0, rf1, rf2⟩ := RZ.out
  go_wp2
  have F := Lib.hid (((RZ.out.set0 (.slice B n1 c1)).set1 (.slice C k d)).set2 (.int .i64 v))
  have K := Lib.hid (show Chg 0 w1.heap.size w2 _ from ((((Chg.set w2 w.heap.size 0 (.slice B n1 c1)).trans (Chg.set _ w.heap.size 1 (.slice C k d))).trans (Chg.set _ w.heap.size 2 (.int .i64 v))).mono (Nat.zero_le _) (by omega)))
  have NF := Lib.hid (New.setCell (p := ⟨w.heap.size, 2, none⟩) (New.setCell (p := ⟨w.heap.size, 1, none⟩) (New.setCell (p := ⟨w.heap.size, 0, none⟩) N2.out (Nat.le_refl _) (.slice B n1 c1)) (Nat.le_refl _) (.slice C k d)) (Nat.le_refl _) (.int .i64 v))
  generalize (((w2.setCell ⟨w.heap.size, 0, none⟩ (.slice B n1 c1)).setCell ⟨w.heap.size, 1, none⟩ (.slice C k d)).setCell ⟨w.heap.size, 2, none⟩ (.int .i64 v)) = W at F K NF ⊢
  refine bodyPost_ret (v := .agg #[.slice B n1 c1, .slice C k d, .int .i64 v]) (by simp [results, Try.results15, go_sem, F.out.c0, F.out.c1, F.out.c2]) rfl ?_
  exact ⟨B, n1, c1, C, k, d, v, xs, ys, rfl, (I2.out _ K.out).1, (I2.out _ K.out).2, n20, k20, NF.out⟩
set_option maxRecDepth 100000 in
set_option maxHeartbeats 4000000 in
theorem DrawPendingCells_any (A : Option Addr) (n c : Nat) (hn : n ≤ maxLen) (hnc : n ≤ c) (w : World) (hb : Bytes w A n) :
    Calls Try.prog 21 #[.slice A n c] w (DrawnF w) := by
  have N0 := Lib.hid (show New w (w.alloc (.cells #[.slice none 0 0, .slice none 0 0, .int .i64 0] 25)) by (repeat (first | exact New.refl _ | assumption | refine New.alloc ?_ _ | refine New.drew ?_ | refine New.drewN ?_ _ | refine New.setCell ?_ (by first | omega | (simp; omega) | (simp; done)) _ | refine New.trans ?_ (by assumption))))
  have HB := Lib.hid (hb.new N0.out)
  have RZ := Lib.hid (B3.laid w (.slice none 0 0) (.slice none 0 0) (.int .i64 0) 25)
  clear hb
  go_enter Try.func21, Try.ntmps21
  go_wp2_with fail
  refine (newReader_any A n c hn hnc _ HB.out).mono ?_
  rintro e w1 ⟨rfl, ⟨m, hm, R1⟩, N1, z1⟩
  have za : w.heap.size + 1 = (w.alloc (.cells #[.slice none 0 0, .slice none 0 0, .int .i64 0] 25)).heap.size := by simp
  rw [← za] at R1 z1
  have R1 := Lib.hid R1
  have RZ := Lib.hid (RZ.out.new N1); have N1 := Lib.hid (N0.out.trans N1)
  clear za
  go_wp2_with fail
  refine (anyBuffers_any _ A m 0 (by omega) hm _ R1.out).mono ?_
  rintro e w2 ⟨B, n1, c1, C, k, d, v, xs, ys, rfl, I2, n20, k20, ⟨q2, lq2, R2⟩, G2⟩
  have z2 := G2.size
  have RZ := Lib.hid (RZ.out.grown G2 (fun e => by have := Option.some.inj e; omega))
  have N2 := Lib.hid (new_only N1.out (by omega) G2)
  have I2 := Lib.hid I2; have R2 := Lib.hid R2
  clear G2
  obtain ⟨_, r0, r1, r2, rf0, rf1, rf2⟩ := RZ.out
  go_wp2
  have F := Lib.hid (((RZ.out.set0 (.slice B n1 c1)).set1 (.slice C k d)).set2 (.int .i64 v))
  have K := Lib.hid (show Chg 0 w1.heap.size w2 _ from ((((Chg.set w2 w.heap.size 0 (.slice B n1 c1)).trans (Chg.set _ w.heap.size 1 (.slice C k d))).trans (Chg.set _ w.heap.size 2 (.int .i64 v))).mono (Nat.zero_le _) (by omega)))
  have NF := Lib.hid (New.setCell (p := ⟨w.heap.size, 2, none⟩) (New.setCell (p := ⟨w.heap.size, 1, none⟩) (New.setCell (p := ⟨w.heap.size, 0, none⟩) N2.out (Nat.le_refl _) (.slice B n1 c1)) (Nat.le_refl _) (.slice C k d)) (Nat.le_refl _) (.int .i64 v))
  generalize (((w2.setCell ⟨w.heap.size, 0, none⟩ (.slice B n1 c1)).setCell ⟨w.heap.size, 1, none⟩ (.slice C k d)).setCell ⟨w.heap.size, 2, none⟩ (.int .i64 v)) = W at F K NF ⊢
  refine bodyPost_ret (v := .agg #[.slice B n1 c1, .slice C k d, .int .i64 v]) (by simp [results, Try.results21, go_sem, F.out.c0, F.out.c1, F.out.c2]) rfl ?_
  exact ⟨B, n1, c1, C, k, d, v, xs, ys, rfl, (I2.out _ K.out).1, (I2.out _ K.out).2, n20, k20, NF.out⟩
set_option maxRecDepth 100000 in
set_option maxHeartbeats 4000000 in
theorem DrawWriteCell_any (A : Option Addr) (n c : Nat) (hn : n ≤ maxLen) (hnc : n ≤ c) (w : World) (hb : Bytes w A n) :
    Calls Try.prog 26 #[.slice A n c] w (DrawnF2 w) := by
  have N0 := Lib.hid (show New w (w.alloc (.cells #[.slice none 0 0, .slice none 0 0, .int .i64 0] 25)) by (repeat (first | exact New.refl _ | assumption | refine New.alloc ?_ _ | refine New.drew ?_ | refine New.drewN ?_ _ | refine New.setCell ?_ (by first | omega | (simp; omega) | (simp; done)) _ | refine New.trans ?_ (by assumption))))
  have HB := Lib.hid (hb.new N0.out)
  have RZ := Lib.hid (B3.laid w (.slice none 0 0) (.slice none 0 0) (.int .i64 0) 25)
  clear hb
  go_enter Try.func26, Try.ntmps26
  go_wp2_with fail
  refine (newReader_any A n c hn hnc _ HB.out).mono ?_
  rintro e w1 ⟨rfl, ⟨m, hm, R1⟩, N1, z1⟩
  have za : w.heap.size + 1 = (w.alloc (.cells #[.slice none 0 0, .slice none 0 0, .int .i64 0] 25)).heap.size := by simp
  rw [← za] at R1 z1
  have R1 := Lib.hid R1
  have RZ := Lib.hid (RZ.out.new N1); have N1 := Lib.hid (N0.out.trans N1)
  clear za
  go_wp2_with fail
  refine (anyBuffers_any _ A m 0 (by omega) hm _ R1.out).mono ?_
  rintro e w2 ⟨B, n1, c1, C, k, d, v, xs, ys, rfl, I2, n20, k20, ⟨q2, lq2, R2⟩, G2⟩
  have z2 := G2.size
  have RZ := Lib.hid (RZ.out.grown G2 (fun e => by have := Option.some.inj e; omega))
  have N2 := Lib.hid (new_only N1.out (by omega) G2)
  have I2 := Lib.hid I2; have R2 := Lib.hid R2
  clear G2
  have NB : New w2 (w2.alloc (.cells #[.slice B n1 c1, .slice C k d, .int .i64 v] 25)) := by (repeat (first | exact New.refl _ | assumption | refine New.alloc ?_ _ | refine New.drew ?_ | refine New.drewN ?_ _ | refine New.setCell ?_ (by first | omega | (simp; omega) | (simp; done)) _ | refine New.trans ?_ (by assumption)))
  have Bb := Lib.hid (B3.laid w2 (.slice B n1 c1) (.slice C k d) (.int .i64 v) 25)
  have RZ := Lib.hid (RZ.out.new NB); have R2 := Lib.hid (R2.out.new NB); have N2 := Lib.hid (N2.out.trans NB)
  have IB := Lib.hid (fun (W : World) (h : Chg 0 w1.heap.size (w2.alloc (.cells #[.slice B n1 c1, .slice C k d, .int .i64 v] 25)) W) => I2.out W ((NB.chg 0 w1.heap.size).trans h))
  have zb : (w2.alloc (.cells #[.slice B n1 c1, .slice C k d, .int .i64 v] 25)).heap.size = w2.heap.size + 1 := by simp
  clear I2 NB
  go_upto_region 3 with fail
  generalize (w2.alloc (.cells #[.slice B n1 c1, .slice C k d, .int .i64 v] 25)) = w3 at *
  have RZ := Lib.hid (RZ.out.new (New.refl w3).drew); have R2 := Lib.hid (R2.out.new (New.refl w3).drew); have N2 := Lib.hid (N2.out.drew); have Bb := Lib.hid (Bb.out.new (New.refl w3).drew)
  have IB := Lib.hid (fun (W : World) (h : Chg 0 w1.heap.size w3.drew W) => IB.out W (((New.refl w3).drew.chg 0 w1.heap.size).trans h))
  have zd : w3.drew.heap.size = w3.heap.size := rfl
  have s0 : IntKind.i64.wrap ((n1 : Int) + 2) = (n1 : Int) + 2 := IntWalk.i64_in _ (by omega)
  have K0 := And.intro Bb.out.c0 (And.intro Bb.out.c1 Bb.out.c2)
  have NC : New w3.drew (w3.alloc (.cells #[.int .i64 0, .int .i64 9, .int .i64 (-9), .int .i64 10000, .int .i64 10001, .int .i64 (-10001)] 3)).drew := (show New w3.drew (w3.drew.alloc (.cells #[.int .i64 0, .int .i64 9, .int .i64 (-9), .int .i64 10000, .int .i64 10001, .int .i64 (-10001)] 3)) by (repeat (first | exact New.refl _ | assumption | refine New.alloc ?_ _ | refine New.drew ?_ | refine New.drewN ?_ _ | refine New.setCell ?_ (by first | omega | (simp; omega) | (simp; done)) _ | refine New.trans ?_ (by assumption))))
  have RC := Lib.hid (R2.out.new NC); have BC := Lib.hid (Bb.out.new NC); have RZC := Lib.hid (RZ.out.new NC)
  have KC := And.intro BC.out.c0 (And.intro BC.out.c1 BC.out.c2)
  have LC := Lib.hid (show ∀ i, i < [0, 9, -9, 10000, 10001, -10001].length → (w3.alloc (.cells #[.int .i64 0, .int .i64 9, .int .i64 (-9), .int .i64 10000, .int .i64 10001, .int .i64 (-10001)] 3)).drew.cell? ⟨w2.heap.size + 1, i, none⟩ = some (.int .i64 ([0, 9, -9, 10000, 10001, -10001].getD i 0)) from lit_at [0, 9, -9, 10000, 10001, -10001] w3 3 (w2.heap.size + 1) zb)
  have zc : (w3.alloc (.cells #[.int .i64 0, .int .i64 9, .int .i64 (-9), .int .i64 10000, .int .i64 10001, .int .i64 (-10001)] 3)).drew.heap.size = w2.heap.size + 1 + 1 := by show (w3.alloc (.cells #[.int .i64 0, .int .i64 9, .int .i64 (-9), .int .i64 10000, .int .i64 10001, .int .i64 (-10001)] 3)).heap.size = _; simp; omega
  clear NC
  obtain ⟨_, r0, r1, r2, rf0, rf1, rf2⟩ := RZ.out
  go_region_held3 (fun w' => w'.cell? ⟨w2.heap.size, 0, none⟩ = some (.slice B n1 c1) ∧ w'.cell? ⟨w2.heap.size, 1, none⟩ = some (.slice C k d) ∧ w'.cell? ⟨w2.heap.size, 2, none⟩ = some (.int .i64 v))
    (first | exact K0 | exact K1 | exact K2 | exact KB | exact KC | exact K3)
    (first
      | ((go_at_call 54); (have CT := pick_any ((n1 : Int) + 2) (w.heap.size + 1) A m q2 (by omega) hm _ R2.out); ((with_reducible refine CT.mono ?_)); clear CT; (rintro e w4 ⟨x, rfl, x0, x1, R4, G4⟩); (have x1 := x1 (by omega)); (have sx : IntKind.i64.wrap (x - 1) = x - 1 := IntWalk.i64_in _ (by omega)); (have z4 := G4.size); (rw [zd, zb] at z4); (have RZ4 := Lib.hid (RZ.out.grown G4 (fun e => by have := Option.some.inj e; omega))); (have Bb4 := Lib.hid (Bb.out.grown G4 (fun e => by have := Option.some.inj e; omega))); (have R4 := Lib.hid R4); (have G4 := Lib.hid G4); (have K1 := And.intro Bb4.out.c0 (And.intro Bb4.out.c1 Bb4.out.c2)); (have NL : New w4 (w4.alloc (.cells #[.int .i64 0, .int .i64 9, .int .i64 (-9), .int .i64 10000, .int .i64 10001, .int .i64 (-10001)] 3)) := by (repeat (first | exact New.refl _ | assumption | refine New.alloc ?_ _ | refine New.drew ?_ | refine New.drewN ?_ _ | refine New.setCell ?_ (by first | omega | (simp; omega) | (simp; done)) _ | refine New.trans ?_ (by assumption)))); (have RL := Lib.hid (R4.out.new NL)); (have BL := Lib.hid (Bb4.out.new NL)); (have KB := And.intro BL.out.c0 (And.intro BL.out.c1 BL.out.c2)); clear NL)
      | ((go_at_call 55); (have CT : Calls Try.prog 55 #[.pointer (some ⟨w.heap.size + 1, 0, none⟩), .slice (some ⟨w4.heap.size, 0, none⟩) 6 6] (w4.alloc (.cells #[.int .i64 0, .int .i64 9, .int .i64 (-9), .int .i64 10000, .int .i64 10001, .int .i64 (-10001)] 3)) (Chosen [0, 9, -9, 10000, 10001, -10001] (w4.alloc (.cells #[.int .i64 0, .int .i64 9, .int .i64 (-9), .int .i64 10000, .int .i64 10001, .int .i64 (-10001)] 3)) (w.heap.size + 1) A m (q2 + 1)) := one_any [0, 9, -9, 10000, 10001, -10001] (by simp) (by simp) w4.heap.size 6 (w.heap.size + 1) A m (q2 + 1) (by omega) hm _ RL.out (by omega) (by simp) (lit_at [0, 9, -9, 10000, 10001, -10001] _ _ _ rfl)); ((with_reducible refine CT.mono ?_)); clear CT; (rintro e w5 ⟨zz, rfl, hz, R5, G5⟩); (have z5 := G5.size); (have RZ5 := Lib.hid ((RZ4.out.new ((New.refl w4).alloc (.cells #[.int .i64 0, .int .i64 9, .int .i64 (-9), .int .i64 10000, .int .i64 10001, .int .i64 (-10001)] 3))).grown G5 (fun e => by have := Option.some.inj e; omega))); (have Bb5 := Lib.hid (BL.out.grown G5 (fun e => by have := Option.some.inj e; omega))); (have G5 := Lib.hid G5); (have K2 := And.intro Bb5.out.c0 (And.intro Bb5.out.c1 Bb5.out.c2)); clear r0 r1 r2 rf0 rf1 rf2 hz R5; (obtain ⟨_, r0, r1, r2, rf0, rf1, rf2⟩ := RZ5.out); (have GG := Lib.hid (only_trans (only_alloc G4.out (.cells #[.int .i64 0, .int .i64 9, .int .i64 (-9), .int .i64 10000, .int .i64 10001, .int .i64 (-10001)] 3)) G5.out)); (have K3B := Lib.hid (((Bb5.out.far (h := w.heap.size) (o := 0) (by omega) (.slice B n1 c1)).far (h := w.heap.size) (o := 1) (by omega) (.slice C k d)).far (h := w.heap.size) (o := 2) (by omega) (.int .i64 v))); (have K3 := And.intro K3B.out.c0 (And.intro K3B.out.c1 K3B.out.c2)))
      | ((go_at_call 54); (have CT := pick_any ((n1 : Int) + 2) (w.heap.size + 1) A m q2 (by omega) hm _ RC.out); ((with_reducible refine CT.mono ?_)); clear CT; (rintro e w4 ⟨x, rfl, x0, x1, R4, G4⟩); (have x1 := x1 (by omega)); (have sx : IntKind.i64.wrap (x - 1) = x - 1 := IntWalk.i64_in _ (by omega)); (have z4 := G4.size); (rw [zc] at z4); (have RZ4 := Lib.hid (RZC.out.grown G4 (fun e => by have := Option.some.inj e; omega))); (have Bb4 := Lib.hid (BC.out.grown G4 (fun e => by have := Option.some.inj e; omega))); (have R4 := Lib.hid R4); (have LD := Lib.hid (fun i (hi : i < [0, 9, -9, 10000, 10001, -10001].length) => (only_cells G4 (w2.heap.size + 1) i (by omega) (by omega)).trans (LC.out i hi))); (have G4 := Lib.hid G4); (have K1 := And.intro Bb4.out.c0 (And.intro Bb4.out.c1 Bb4.out.c2)); (have KB := K1))
      | ((go_at_call 55); (have CT : Calls Try.prog 55 #[.pointer (some ⟨w.heap.size + 1, 0, none⟩), .slice (some ⟨w2.heap.size + 1, 0, none⟩) 6 6] w4 (Chosen [0, 9, -9, 10000, 10001, -10001] w4 (w.heap.size + 1) A m (q2 + 1)) := one_any [0, 9, -9, 10000, 10001, -10001] (by simp) (by simp) (w2.heap.size + 1) 6 (w.heap.size + 1) A m (q2 + 1) (by omega) hm _ R4.out (by omega) (by omega) LD.out); ((with_reducible refine CT.mono ?_)); clear CT; (rintro e w5 ⟨zz, rfl, hz, R5, G5⟩); (have z5 := G5.size); (have RZ5 := Lib.hid (RZ4.out.grown G5 (fun e => by have := Option.some.inj e; omega))); (have Bb5 := Lib.hid (Bb4.out.grown G5 (fun e => by have := Option.some.inj e; omega))); (have G5 := Lib.hid G5); (have K2 := And.intro Bb5.out.c0 (And.intro Bb5.out.c1 Bb5.out.c2)); clear r0 r1 r2 rf0 rf1 rf2 hz R5; (obtain ⟨_, r0, r1, r2, rf0, rf1, rf2⟩ := RZ5.out); (have GG := Lib.hid (only_trans (only_trans (show w3.drew.grownBy (w3.alloc (.cells #[.int .i64 0, .int .i64 9, .int .i64 (-9), .int .i64 10000, .int .i64 10001, .int .i64 (-10001)] 3)).drew (some (w.heap.size + 1)) from only_alloc (only_refl (w0 := w3.drew)) (.cells #[.int .i64 0, .int .i64 9, .int .i64 (-9), .int .i64 10000, .int .i64 10001, .int .i64 (-10001)] 3)) G4.out) G5.out)); (have K3B := Lib.hid (((Bb5.out.far (h := w.heap.size) (o := 0) (by omega) (.slice B n1 c1)).far (h := w.heap.size) (o := 1) (by omega) (.slice C k d)).far (h := w.heap.size) (o := 2) (by omega) (.int .i64 v))); (have K3 := And.intro K3B.out.c0 (And.intro K3B.out.c1 K3B.out.c2))))
  all_goals
    clear K0 K1 K3 K3B r0 r1 r2 rf0 rf1 rf2 sx s0 K2 KB KC
    go_wp2
    have F := Lib.hid (((RZ5.out.set0 (.slice B n1 c1)).set1 (.slice C k d)).set2 (.int .i64 v))
    have K := Lib.hid (show Chg 0 w1.heap.size w3.drew _ from (Chg.of_grown GG.out (Nat.zero_le _) z1).trans ((((Chg.set w5 w.heap.size 0 (.slice B n1 c1)).trans (Chg.set _ w.heap.size 1 (.slice C k d))).trans (Chg.set _ w.heap.size 2 (.int .i64 v))).mono (Nat.zero_le _) (by omega)))
    have NF := Lib.hid (New.setCell (p := ⟨w.heap.size, 2, none⟩) (New.setCell (p := ⟨w.heap.size, 1, none⟩) (New.setCell (p := ⟨w.heap.size, 0, none⟩) (new_only N2.out (by omega) GG.out) (Nat.le_refl _) (.slice B n1 c1)) (Nat.le_refl _) (.slice C k d)) (Nat.le_refl _) (.int .i64 v))
    generalize (((w5.setCell ⟨w.heap.size, 0, none⟩ (.slice B n1 c1)).setCell ⟨w.heap.size, 1, none⟩ (.slice C k d)).setCell ⟨w.heap.size, 2, none⟩ (.int .i64 v)) = W at F K NF ⊢
    refine bodyPost_ret (v := .tuple #[.agg #[.slice B n1 c1, .slice C k d, .int .i64 v], .int .i64 (x - 1), .int .i64 zz]) (by simp [results, Try.results26, go_sem, F.out.c0, F.out.c1, F.out.c2]) rfl ?_
    exact ⟨B, n1, c1, C, k, d, v, xs, ys, x - 1, zz, rfl, (IB.out _ K.out).1, (IB.out _ K.out).2, n20, k20, NF.out⟩
end Go.Proofs.Ytbnelakllfbjiaa
