/- The drawn arguments of ClampScroll and ScrollInto. Condition: the code can be read. -/
import Derived.Test.YtacpodlbiphcfaaDrawOf
import Derived.Test.YtacpodlbiphcfaaScrM
namespace Go.Proofs.Ytacpodlbiphcfaa
open Go.RowKit

/-- What drawing three numbers leaves. -/
def Drawn3N (w : World) (e : Ending) (w' : World) : Prop :=
  ∃ c v a : Int, e = .returned (.tuple #[.int .i64 c, .int .i64 v, .int .i64 a]) ∧ ((-1000000000 ≤ c ∧ c ≤ 1000000000) ∧ (-1000000000 ≤ v ∧ v ≤ 1000000000) ∧ (-1000000000 ≤ a ∧ a ≤ 1000000000)) ∧ New w w'
/-- What drawing five numbers leaves. -/
def Drawn5N (w : World) (e : Ending) (w' : World) : Prop :=
  ∃ c v a l h : Int, e = .returned (.tuple #[.int .i64 c, .int .i64 v, .int .i64 a, .int .i64 l, .int .i64 h]) ∧ ((-1000000000 ≤ c ∧ c ≤ 1000000000) ∧ (-1000000000 ≤ v ∧ v ≤ 1000000000) ∧ (-1000000000 ≤ a ∧ a ≤ 1000000000) ∧ (-1000000000 ≤ l ∧ l ≤ 1000000000) ∧ (-1000000000 ≤ h ∧ h ≤ 1000000000)) ∧ New w w'
set_option maxHeartbeats 4000000 in
theorem DrawClampScroll_any (A : Option Addr) (n c : Nat) (hn : n ≤ maxLen) (hnc : n ≤ c) (w : World) (hb : Bytes w A n) :
    Calls Try.prog 12 #[.slice A n c] w (Drawn3N w) := by
  have HB := Lib.hid hb
  clear hb
  have hmn := fun (W : World) (ts : Array TypeId) (t : TypeId) (x y : Int) => run_mn Try.prog W ts t x y
  go_enter Try.func12, Try.ntmps12
  go_wp2_with fail
  refine (newReader_any A n c hn hnc _ HB.out).mono ?_
  rintro e w1 ⟨rfl, ⟨m, hm, R1⟩, N1, z1⟩
  replace R1 := Lib.hid R1; replace N1 := Lib.hid N1
  clear hmn
  go_wp2_with fail
  refine (someSpace_any w.heap.size A m 0 (by omega) hm _ R1.out).mono ?_
  rintro e w2 ⟨cc, rfl, cb, ⟨q, lq, R2⟩, G2⟩
  have z2 := G2.size
  replace R2 := Lib.hid R2; replace G2 := Lib.hid G2
  go_wp2_with fail
  refine (one_any [100, 50, 0, 300, 200001, -1, 1000] (by simp) (by simp) w2.heap.size 7 w.heap.size A m (q) (by omega) hm _ (R2.out.new (by (repeat (first | exact New.refl _ | assumption | refine New.alloc ?_ _ | refine New.drew ?_ | refine New.drewN ?_ _ | refine New.setCell ?_ (by first | omega | (simp; omega) | (simp; done)) _ | refine New.trans ?_ (by assumption))))) (by omega) (by simp) (lit_at [100, 50, 0, 300, 200001, -1, 1000] _ _ _ rfl)).mono ?_
  rintro e w3 ⟨v, rfl, hv, R3, G3⟩
  have vb : -1000000000 ≤ v ∧ v ≤ 1000000000 := by simp at hv; omega
  have z3 := G3.size; simp at z3
  replace R3 := Lib.hid R3; replace G3 := Lib.hid (only_trans (only_alloc G2.out _) G3)
  clear hv
  go_wp2_with fail
  refine (one_any [0, 10, -5, 250, 900, 200000, 200001, -200001] (by simp) (by simp) w3.heap.size 8 w.heap.size A m (q + 1) (by omega) hm _ (R3.out.new (by (repeat (first | exact New.refl _ | assumption | refine New.alloc ?_ _ | refine New.drew ?_ | refine New.drewN ?_ _ | refine New.setCell ?_ (by first | omega | (simp; omega) | (simp; done)) _ | refine New.trans ?_ (by assumption))))) (by omega) (by simp) (lit_at [0, 10, -5, 250, 900, 200000, 200001, -200001] _ _ _ rfl)).mono ?_
  rintro e w4 ⟨x, rfl, hx, R4, G4⟩
  have xb : -1000000000 ≤ x ∧ x ≤ 1000000000 := by simp at hx; omega
  have z4 := G4.size; simp at z4
  replace R4 := Lib.hid R4; replace G4 := Lib.hid (only_trans (only_alloc G3.out _) G4)
  clear hx
  have N9 := Lib.hid (new_only N1.out (Nat.le_refl _) G4.out)
  have B9 := Lib.hid (And.intro cb (And.intro vb xb))
  go_wp2
  refine bodyPost_ret (v := .tuple #[.int .i64 cc, .int .i64 v, .int .i64 x]) (by simp [results, Try.results12, go_sem]) rfl ?_
  exact ⟨cc, v, x, rfl, B9.out, N9.out⟩
set_option maxHeartbeats 4000000 in
theorem DrawScrollInto_any (A : Option Addr) (n c : Nat) (hn : n ≤ maxLen) (hnc : n ≤ c) (w : World) (hb : Bytes w A n) :
    Calls Try.prog 15 #[.slice A n c] w (Drawn5N w) := by
  have HB := Lib.hid hb
  clear hb
  have hmn := fun (W : World) (ts : Array TypeId) (t : TypeId) (x y : Int) => run_mn Try.prog W ts t x y
  go_enter Try.func15, Try.ntmps15
  go_wp2_with fail
  refine (newReader_any A n c hn hnc _ HB.out).mono ?_
  rintro e w1 ⟨rfl, ⟨m, hm, R1⟩, N1, z1⟩
  replace R1 := Lib.hid R1; replace N1 := Lib.hid N1
  go_wp2_with fail
  refine (one_any [1000, 500, 100, 0, 300] (by simp) (by simp) w1.heap.size 5 w.heap.size A m (0) (by omega) hm _ (R1.out.new (by (repeat (first | exact New.refl _ | assumption | refine New.alloc ?_ _ | refine New.drew ?_ | refine New.drewN ?_ _ | refine New.setCell ?_ (by first | omega | (simp; omega) | (simp; done)) _ | refine New.trans ?_ (by assumption))))) (by omega) (by simp) (lit_at [1000, 500, 100, 0, 300] _ _ _ rfl)).mono ?_
  rintro e w2 ⟨cc, rfl, hcc, R2, G2⟩
  have ccb : 0 ≤ cc ∧ cc ≤ 1000 := by simp at hcc; omega
  have z2 := G2.size; simp at z2
  replace R2 := Lib.hid R2; replace G2 := Lib.hid (only_trans (only_alloc only_refl _) G2)
  clear hcc
  go_wp2_with fail
  refine (one_any [100, 50, 300, 0, 1000] (by simp) (by simp) w2.heap.size 5 w.heap.size A m (0 + 1) (by omega) hm _ (R2.out.new (by (repeat (first | exact New.refl _ | assumption | refine New.alloc ?_ _ | refine New.drew ?_ | refine New.drewN ?_ _ | refine New.setCell ?_ (by first | omega | (simp; omega) | (simp; done)) _ | refine New.trans ?_ (by assumption))))) (by omega) (by simp) (lit_at [100, 50, 300, 0, 1000] _ _ _ rfl)).mono ?_
  rintro e w3 ⟨v, rfl, hv, R3, G3⟩
  have vb : 0 ≤ v ∧ v ≤ 1000 := by simp at hv; omega
  have z3 := G3.size; simp at z3
  replace R3 := Lib.hid R3; replace G3 := Lib.hid (only_trans (only_alloc G2.out _) G3)
  clear hv
  obtain ⟨c0, c1⟩ := ccb
  obtain ⟨v0, v1⟩ := vb
  have HV : Hid (vwB cc v = true) := Lib.hid (vwB_iff.2 ⟨⟨c0, by omega⟩, v0, by omega⟩)
  go_wp2_with fail
  refine (pick_any (250) w.heap.size A m (0 + 1 + 1) (by omega) hm _ R3.out).mono ?_
  rintro e w4 ⟨k, rfl, k0, k1, R4, G4⟩
  replace k1 := k1 (by omega)
  have z4 := G4.size
  replace R4 := Lib.hid R4; replace G4 := Lib.hid (only_trans G3.out G4)
  go_wp2_with fail
  refine (sclampScroll_any cc v (4 * k) HV.out _).mono ?_
  rintro e w' ⟨rfl, rfl⟩
  have ab : 0 ≤ clP cc v (4 * k) ∧ clP cc v (4 * k) ≤ 1000 := by unfold clP mx mn; omega
  obtain ⟨at0, hat⟩ : ∃ at0, clP cc v (4 * k) = at0 := ⟨_, rfl⟩
  rw [hat] at ab ⊢
  clear hat
  obtain ⟨a0, a1⟩ := ab
  go_wp2_with fail
  refine (pick_any (12) w.heap.size A m (0 + 1 + 1 + 1) (by omega) hm _ R4.out).mono ?_
  rintro e w5 ⟨t, rfl, t0, t1, R5, G5⟩
  replace t1 := t1 (by omega)
  have z5 := G5.size
  replace R5 := Lib.hid R5; replace G5 := Lib.hid (only_trans G4.out G5)
  by_cases ht : t = 0
  · subst ht
    go_wp2_with fail
    refine (one_any [-1, 2000] (by simp) (by simp) w5.heap.size 2 w.heap.size A m (0 + 1 + 1 + 1 + 1) (by omega) hm _ (R5.out.new (by (repeat (first | exact New.refl _ | assumption | refine New.alloc ?_ _ | refine New.drew ?_ | refine New.drewN ?_ _ | refine New.setCell ?_ (by first | omega | (simp; omega) | (simp; done)) _ | refine New.trans ?_ (by assumption))))) (by omega) (by simp) (lit_at [-1, 2000] _ _ _ rfl)).mono ?_
    rintro e w6 ⟨a2, rfl, ha2, R6, G6⟩
    have a2b : -1000000000 ≤ a2 ∧ a2 ≤ 1000000000 := by simp at ha2; omega
    have z6 := G6.size; simp at z6
    replace R6 := Lib.hid R6; replace G6 := Lib.hid (only_trans (only_alloc G5.out _) G6)
    clear ha2
    obtain ⟨a20, a21⟩ := a2b
    have mb : 0 ≤ mn cc 250 ∧ mn cc 250 ≤ 250 := by unfold mn; omega
    obtain ⟨m0, m1⟩ := mb
    go_wp2_with fail
    refine (pick_any (mn cc 250 + 1) w.heap.size A m (0 + 1 + 1 + 1 + 1 + 1) (by omega) hm _ R6.out).mono ?_
    rintro e w7 ⟨j, rfl, j0, j1, R7, G7⟩
    replace j1 := j1 (by omega)
    have z7 := G7.size
    replace R7 := Lib.hid R7; replace G7 := Lib.hid (only_trans G6.out G7)
    have l0 : 0 ≤ j * 4 % (cc + 1) := Int.emod_nonneg _ (by omega)
    have l1 : j * 4 % (cc + 1) < cc + 1 := Int.emod_lt_of_pos _ (by omega)
    go_wp2_with fail
    generalize j * 4 % (cc + 1) = l at l0 l1 ⊢
    refine (one_any [0, 10, 50, 120, 400] (by simp) (by simp) w7.heap.size 5 w.heap.size A m (0 + 1 + 1 + 1 + 1 + 1 + 1) (by omega) hm _ (R7.out.new (by (repeat (first | exact New.refl _ | assumption | refine New.alloc ?_ _ | refine New.drew ?_ | refine New.drewN ?_ _ | refine New.setCell ?_ (by first | omega | (simp; omega) | (simp; done)) _ | refine New.trans ?_ (by assumption))))) (by omega) (by simp) (lit_at [0, 10, 50, 120, 400] _ _ _ rfl)).mono ?_
    rintro e w8 ⟨y, rfl, hy, R8, G8⟩
    have yb : 0 ≤ y ∧ y ≤ 400 := by simp at hy; omega
    have z8 := G8.size; simp at z8
    replace R8 := Lib.hid R8; replace G8 := Lib.hid (only_trans (only_alloc G7.out _) G8)
    clear hy
    obtain ⟨y0, y1⟩ := yb
    have hb2 : 0 ≤ mn cc (l + y) ∧ mn cc (l + y) ≤ 1000 := by unfold mn; omega
    obtain ⟨b0, b1⟩ := hb2
    go_wp2_with fail
    refine (pick_any (12) w.heap.size A m (0 + 1 + 1 + 1 + 1 + 1 + 1 + 1) (by omega) hm _ R8.out).mono ?_
    rintro e w9 ⟨u, rfl, u0, u1, R9, G9⟩
    replace u1 := u1 (by omega)
    have z9 := G9.size
    replace R9 := Lib.hid R9; replace G9 := Lib.hid (only_trans G8.out G9)
    generalize mn cc (l + y) = h0 at b0 b1 ⊢
    by_cases hu : u = 0
    · subst hu
      go_wp2_with fail
      refine (one_any [l - 1, cc + 1] (by simp) (by simp) w9.heap.size 2 w.heap.size A m (0 + 1 + 1 + 1 + 1 + 1 + 1 + 1 + 1) (by omega) hm _ (R9.out.new (by (repeat (first | exact New.refl _ | assumption | refine New.alloc ?_ _ | refine New.drew ?_ | refine New.drewN ?_ _ | refine New.setCell ?_ (by first | omega | (simp; omega) | (simp; done)) _ | refine New.trans ?_ (by assumption))))) (by omega) (by simp) (lit_at [l - 1, cc + 1] _ _ _ rfl)).mono ?_
      rintro e w10 ⟨h1, rfl, hh1, R10, G10⟩
      have h1b : -1000000000 ≤ h1 ∧ h1 ≤ 1000000000 := by simp at hh1; omega
      have z10 := G10.size; simp at z10
      replace R10 := Lib.hid R10; replace G10 := Lib.hid (only_trans (only_alloc G9.out _) G10)
      clear hh1
      obtain ⟨h10, h11⟩ := h1b
      have N9 := Lib.hid (new_only N1.out (Nat.le_refl _) G10.out)
      go_wp2
      refine bodyPost_ret (v := .tuple #[.int .i64 cc, .int .i64 v, .int .i64 a2, .int .i64 l, .int .i64 h1]) (by simp [results, Try.results15, go_sem]) rfl ?_
      exact ⟨cc, v, a2, l, h1, rfl, ⟨⟨by omega, by omega⟩, ⟨by omega, by omega⟩, ⟨by omega, by omega⟩, ⟨by omega, by omega⟩, ⟨by omega, by omega⟩⟩, N9.out⟩
    · have hu2 : (u == 0) = false := by simpa using hu
      clear hu
      have N9 := Lib.hid (new_only N1.out (Nat.le_refl _) G9.out)
      go_wp2
      refine bodyPost_ret (v := .tuple #[.int .i64 cc, .int .i64 v, .int .i64 a2, .int .i64 l, .int .i64 h0]) (by simp [results, Try.results15, go_sem]) rfl ?_
      exact ⟨cc, v, a2, l, h0, rfl, ⟨⟨by omega, by omega⟩, ⟨by omega, by omega⟩, ⟨by omega, by omega⟩, ⟨by omega, by omega⟩, ⟨by omega, by omega⟩⟩, N9.out⟩
  · have ht2 : (t == 0) = false := by simpa using ht
    clear ht
    have mb : 0 ≤ mn cc 250 ∧ mn cc 250 ≤ 250 := by unfold mn; omega
    obtain ⟨m0, m1⟩ := mb
    go_wp2_with fail
    refine (pick_any (mn cc 250 + 1) w.heap.size A m (0 + 1 + 1 + 1 + 1) (by omega) hm _ R5.out).mono ?_
    rintro e w6 ⟨j, rfl, j0, j1, R6, G6⟩
    replace j1 := j1 (by omega)
    have z6 := G6.size
    replace R6 := Lib.hid R6; replace G6 := Lib.hid (only_trans G5.out G6)
    have l0 : 0 ≤ j * 4 % (cc + 1) := Int.emod_nonneg _ (by omega)
    have l1 : j * 4 % (cc + 1) < cc + 1 := Int.emod_lt_of_pos _ (by omega)
    go_wp2_with fail
    generalize j * 4 % (cc + 1) = l at l0 l1 ⊢
    refine (one_any [0, 10, 50, 120, 400] (by simp) (by simp) w6.heap.size 5 w.heap.size A m (0 + 1 + 1 + 1 + 1 + 1) (by omega) hm _ (R6.out.new (by (repeat (first | exact New.refl _ | assumption | refine New.alloc ?_ _ | refine New.drew ?_ | refine New.drewN ?_ _ | refine New.setCell ?_ (by first | omega | (simp; omega) | (simp; done)) _ | refine New.trans ?_ (by assumption))))) (by omega) (by simp) (lit_at [0, 10, 50, 120, 400] _ _ _ rfl)).mono ?_
    rintro e w7 ⟨y, rfl, hy, R7, G7⟩
    have yb : 0 ≤ y ∧ y ≤ 400 := by simp at hy; omega
    have z7 := G7.size; simp at z7
    replace R7 := Lib.hid R7; replace G7 := Lib.hid (only_trans (only_alloc G6.out _) G7)
    clear hy
    obtain ⟨y0, y1⟩ := yb
    have hb2 : 0 ≤ mn cc (l + y) ∧ mn cc (l + y) ≤ 1000 := by unfold mn; omega
    obtain ⟨b0, b1⟩ := hb2
    go_wp2_with fail
    refine (pick_any (12) w.heap.size A m (0 + 1 + 1 + 1 + 1 + 1 + 1) (by omega) hm _ R7.out).mono ?_
    rintro e w8 ⟨u, rfl, u0, u1, R8, G8⟩
    replace u1 := u1 (by omega)
    have z8 := G8.size
    replace R8 := Lib.hid R8; replace G8 := Lib.hid (only_trans G7.out G8)
    generalize mn cc (l + y) = h0 at b0 b1 ⊢
    by_cases hu : u = 0
    · subst hu
      go_wp2_with fail
      refine (one_any [l - 1, cc + 1] (by simp) (by simp) w8.heap.size 2 w.heap.size A m (0 + 1 + 1 + 1 + 1 + 1 + 1 + 1) (by omega) hm _ (R8.out.new (by (repeat (first | exact New.refl _ | assumption | refine New.alloc ?_ _ | refine New.drew ?_ | refine New.drewN ?_ _ | refine New.setCell ?_ (by first | omega | (simp; omega) | (simp; done)) _ | refine New.trans ?_ (by assumption))))) (by omega) (by simp) (lit_at [l - 1, cc + 1] _ _ _ rfl)).mono ?_
      rintro e w9 ⟨h1, rfl, hh1, R9, G9⟩
      have h1b : -1000000000 ≤ h1 ∧ h1 ≤ 1000000000 := by simp at hh1; omega
      have z9 := G9.size; simp at z9
      replace R9 := Lib.hid R9; replace G9 := Lib.hid (only_trans (only_alloc G8.out _) G9)
      clear hh1
      obtain ⟨h10, h11⟩ := h1b
      have N9 := Lib.hid (new_only N1.out (Nat.le_refl _) G9.out)
      go_wp2
      refine bodyPost_ret (v := .tuple #[.int .i64 cc, .int .i64 v, .int .i64 at0, .int .i64 l, .int .i64 h1]) (by simp [results, Try.results15, go_sem]) rfl ?_
      exact ⟨cc, v, at0, l, h1, rfl, ⟨⟨by omega, by omega⟩, ⟨by omega, by omega⟩, ⟨by omega, by omega⟩, ⟨by omega, by omega⟩, ⟨by omega, by omega⟩⟩, N9.out⟩
    · have hu2 : (u == 0) = false := by simpa using hu
      clear hu
      have N9 := Lib.hid (new_only N1.out (Nat.le_refl _) G8.out)
      go_wp2
      refine bodyPost_ret (v := .tuple #[.int .i64 cc, .int .i64 v, .int .i64 at0, .int .i64 l, .int .i64 h0]) (by simp [results, Try.results15, go_sem]) rfl ?_
      exact ⟨cc, v, at0, l, h0, rfl, ⟨⟨by omega, by omega⟩, ⟨by omega, by omega⟩, ⟨by omega, by omega⟩, ⟨by omega, by omega⟩, ⟨by omega, by omega⟩⟩, N9.out⟩
end Go.Proofs.Ytacpodlbiphcfaa
