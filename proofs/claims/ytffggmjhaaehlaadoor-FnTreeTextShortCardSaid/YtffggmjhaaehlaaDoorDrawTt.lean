/- Drawn trees that may be invalid, and drawn numbers of boxes: the arguments of the functions on trees. Condition: the code can be read. -/
import Derived.Test.YtffggmjhaaehlaaDoorDrawTs
namespace Go.Proofs.YtffggmjhaaehlaaDoor
open Go.RowKit

theorem Row.sts9 {w : World} {g n : Nat} {ys : List Int} (h : Row w g ys) (hl : ys.length = n * 9) : Sts 9 w (some ⟨g, 0, none⟩) n ys := Sts.of_res (Res.of_row h (Nat.zero_le _)) hl
theorem Row.sts9_tail {w : World} {g n : Nat} {ys : List Int} (h : Row w g ys) (hl : ys.length = (n + 1) * 9) : Sts 9 w (some ⟨g, 9, none⟩) n (ys.drop 9) :=
  ⟨by rw [List.length_drop]; omega, fun _ => ⟨g, 9, rfl, h.lt, fun i hi => by rw [h.c (9 + i) (by omega)]; simp [List.getD_eq_getElem?_getD]⟩⟩
/-- What drawing a tree that may be invalid leaves. -/
def DrawnA (w : World) (a : Nat) (A : Option Addr) (m p : Nat) (e : Ending) (w' : World) : Prop :=
  ∃ (B : Option Addr) (n c : Nat) (ys : List Int), e = .returned (.slice B n c) ∧ n ≤ 16 ∧ n ≤ c ∧ (∀ W, Chg 0 w.heap.size w' W → Sts 9 W B n ys) ∧ (∃ q, q ≤ p + 210 ∧ Rdr w' a A m q) ∧ w.grownBy w' (some a)
set_option maxHeartbeats 4000000 in
theorem anyTree_any (a : Nat) (A : Option Addr) (m p : Nat) (hp : p ≤ 700000) (hm : m ≤ 2000) (w : World) (h : Rdr w a A m p) :
    Calls Tryd.prog 22 #[.pointer (some ⟨a, 0, none⟩)] w (DrawnA w a A m p) := by
  have hlt : a < w.heap.size := World.block_lt_of_cell? w ⟨a, 1, none⟩ h.pos
  have HR := Lib.hid h
  clear h
  go_enter Tryd.func22, Tryd.ntmps22
  go_wp2_with fail
  refine (someTree_any a A m p (by omega) hm _ HR.out).mono ?_
  rintro e w1 ⟨g, n, c, ys, rfl, hn1, h16, hnc, hg, RW, yl, ⟨q1, hq1, R1⟩, G1⟩
  have z1 := G1.size
  replace R1 := Lib.hid R1; replace G1 := Lib.hid G1; replace RW := Lib.hid RW
  have n0 : (1 : Int) ≤ (n : Int) := by omega
  have n16 : (n : Int) ≤ 16 := by omega
  go_wp2_with fail
  refine (pick_any _ a A m q1 (by omega) hm _ R1.out).mono ?_
  rintro e w2 ⟨k, rfl, k0, k1, R2, G2⟩
  replace k1 := k1 (by omega)
  obtain ⟨k, rfl⟩ := Int.eq_ofNat_of_zero_le k0
  have z2 := G2.size
  have RW2 := Lib.hid (RW.out.chg (Chg.of_grown G2 (Nat.le_refl a) (Nat.lt_succ_self a)) (by omega))
  replace G2 := Lib.hid (only_trans G1.out G2); replace R2 := Lib.hid R2
  clear RW R1 G1
  go_wp2_with fail
  refine (pick_any 30 a A m (q1 + 1) (by omega) hm _ R2.out).mono ?_
  rintro e w3 ⟨s, rfl, s0, s1, R3, G3⟩
  have z3 := G3.size
  have RW3 := Lib.hid (RW2.out.chg (Chg.of_grown G3 (Nat.le_refl a) (Nat.lt_succ_self a)) (by omega))
  replace G3 := Lib.hid (only_trans G2.out G3); replace R3 := Lib.hid R3
  clear RW2 R2 G2 s0 s1
  by_cases h0 : s = 0
  · subst h0
    go_wp2_with fail
    refine (pick_any 5 a A m (q1 + 1 + 1) (by omega) hm _ R3.out).mono ?_
    rintro e w4 ⟨u, rfl, u0, u1, R4, G4x⟩
    replace u1 := u1 (by omega)
    have z4 := G4x.size
    have RWX := RW3.out
    have G4y := only_trans G3.out G4x
    have RW4 := Lib.hid (RWX.chg (Chg.of_grown G4x (Nat.le_refl a) (Nat.lt_succ_self a)) (by omega))
    have G4 := Lib.hid G4y; replace R4 := Lib.hid R4
    have o4 := RW4.out.c (k * 9) (by omega); have f4 := RW4.out.f (k * 9) (by omega)
    have S4 := Lib.hid (RW4.out.set_ (k := k * 9) (by omega) (u - 1))
    generalize ys.getD (k * 9) 0 = old at o4
    go_wp2
    go_ret
    exact ⟨_, n, c, ys.set (k * 9) (u - 1), rfl, h16, hnc, fun W hW => (S4.out.chg hW (by omega)).sts9 (by simp; exact yl), ⟨q1 + 1 + 1 + 1, by omega, R4.out.set (by first | omega | (simp; omega) | (simp; done)) _⟩, only_set G4.out (by first | omega | (simp; omega) | (simp; done)) _⟩
  have h0b : (s == 0) = false := by simpa using h0
  by_cases h1 : s = 1
  · subst h1
    go_wp2_with fail
    refine (one_any [0, 4, -1, 1] (by simp) (by simp) w3.heap.size 4 a A m (q1 + 1 + 1) (by omega) hm _ (R3.out.new (by (repeat (first | exact New.refl _ | assumption | refine New.alloc ?_ _ | refine New.drew ?_ | refine New.drewN ?_ _ | refine New.setCell ?_ (by first | omega | (simp; omega) | (simp; done)) _ | refine New.trans ?_ (by assumption))))) (by omega) (by simp) (lit_at [0, 4, -1, 1] _ _ _ rfl)).mono ?_
    rintro e w4 ⟨u, rfl, _, R4, G4x⟩
    have z4 := G4x.size; simp at z4
    have RWX := RW3.out.new ((New.refl _).alloc (.cells ([0, 4, -1, 1].map (Value.int .i64)).toArray 3))
    have G4y := only_trans (only_alloc G3.out _) G4x
    have RW4 := Lib.hid (RWX.chg (Chg.of_grown G4x (Nat.le_refl a) (Nat.lt_succ_self a)) (by omega))
    have G4 := Lib.hid G4y; replace R4 := Lib.hid R4
    have o4 := RW4.out.c (k * 9 + 1) (by omega); have f4 := RW4.out.f (k * 9 + 1) (by omega)
    have S4 := Lib.hid (RW4.out.set_ (k := k * 9 + 1) (by omega) (u))
    generalize ys.getD (k * 9 + 1) 0 = old at o4
    go_wp2
    go_ret
    exact ⟨_, n, c, ys.set (k * 9 + 1) (u), rfl, h16, hnc, fun W hW => (S4.out.chg hW (by omega)).sts9 (by simp; exact yl), ⟨q1 + 1 + 1 + 1, by omega, R4.out.set (by first | omega | (simp; omega) | (simp; done)) _⟩, only_set G4.out (by first | omega | (simp; omega) | (simp; done)) _⟩
  have h1b : (s == 1) = false := by simpa using h1
  by_cases h2 : s = 2
  · subst h2
    go_wp2_with fail
    refine (one_any [1, 101, -1] (by simp) (by simp) w3.heap.size 3 a A m (q1 + 1 + 1) (by omega) hm _ (R3.out.new (by (repeat (first | exact New.refl _ | assumption | refine New.alloc ?_ _ | refine New.drew ?_ | refine New.drewN ?_ _ | refine New.setCell ?_ (by first | omega | (simp; omega) | (simp; done)) _ | refine New.trans ?_ (by assumption))))) (by omega) (by simp) (lit_at [1, 101, -1] _ _ _ rfl)).mono ?_
    rintro e w4 ⟨u, rfl, _, R4, G4x⟩
    have z4 := G4x.size; simp at z4
    have RWX := RW3.out.new ((New.refl _).alloc (.cells ([1, 101, -1].map (Value.int .i64)).toArray 3))
    have G4y := only_trans (only_alloc G3.out _) G4x
    have RW4 := Lib.hid (RWX.chg (Chg.of_grown G4x (Nat.le_refl a) (Nat.lt_succ_self a)) (by omega))
    have G4 := Lib.hid G4y; replace R4 := Lib.hid R4
    have o4 := RW4.out.c (k * 9 + 2) (by omega); have f4 := RW4.out.f (k * 9 + 2) (by omega)
    have S4 := Lib.hid (RW4.out.set_ (k := k * 9 + 2) (by omega) (u))
    generalize ys.getD (k * 9 + 2) 0 = old at o4
    go_wp2
    go_ret
    exact ⟨_, n, c, ys.set (k * 9 + 2) (u), rfl, h16, hnc, fun W hW => (S4.out.chg hW (by omega)).sts9 (by simp; exact yl), ⟨q1 + 1 + 1 + 1, by omega, R4.out.set (by first | omega | (simp; omega) | (simp; done)) _⟩, only_set G4.out (by first | omega | (simp; omega) | (simp; done)) _⟩
  have h2b : (s == 2) = false := by simpa using h2
  by_cases h3 : s = 3
  · subst h3
    go_wp2_with fail
    refine (one_any [51, -1] (by simp) (by simp) w3.heap.size 2 a A m (q1 + 1 + 1) (by omega) hm _ (R3.out.new (by (repeat (first | exact New.refl _ | assumption | refine New.alloc ?_ _ | refine New.drew ?_ | refine New.drewN ?_ _ | refine New.setCell ?_ (by first | omega | (simp; omega) | (simp; done)) _ | refine New.trans ?_ (by assumption))))) (by omega) (by simp) (lit_at [51, -1] _ _ _ rfl)).mono ?_
    rintro e w4 ⟨u, rfl, _, R4, G4x⟩
    have z4 := G4x.size; simp at z4
    have RWX := RW3.out.new ((New.refl _).alloc (.cells ([51, -1].map (Value.int .i64)).toArray 3))
    have G4y := only_trans (only_alloc G3.out _) G4x
    have RW4 := Lib.hid (RWX.chg (Chg.of_grown G4x (Nat.le_refl a) (Nat.lt_succ_self a)) (by omega))
    have G4 := Lib.hid G4y; replace R4 := Lib.hid R4
    have o4 := RW4.out.c (k * 9 + 4) (by omega); have f4 := RW4.out.f (k * 9 + 4) (by omega)
    have S4 := Lib.hid (RW4.out.set_ (k := k * 9 + 4) (by omega) (u))
    generalize ys.getD (k * 9 + 4) 0 = old at o4
    go_wp2
    go_ret
    exact ⟨_, n, c, ys.set (k * 9 + 4) (u), rfl, h16, hnc, fun W hW => (S4.out.chg hW (by omega)).sts9 (by simp; exact yl), ⟨q1 + 1 + 1 + 1, by omega, R4.out.set (by first | omega | (simp; omega) | (simp; done)) _⟩, only_set G4.out (by first | omega | (simp; omega) | (simp; done)) _⟩
  have h3b : (s == 3) = false := by simpa using h3
  by_cases h4 : s = 4
  · subst h4
    obtain ⟨n', hn'⟩ : ∃ n', n = n' + 1 := ⟨n - 1, by omega⟩
    obtain ⟨c', hc'⟩ : ∃ c', c = c' + 1 := ⟨c - 1, by omega⟩
    have e1 : (n : Int) - 1 = (n' : Int) := by omega
    have e2 : (c : Int) - 1 = (c' : Int) := by omega
    have c0 : (1 : Int) ≤ (c : Int) := by omega
    have ST := Lib.hid (fun (W : World) (hW : Chg 0 w.heap.size w3 W) => (RW3.out.chg hW (by omega)).sts9_tail (n := n') (by rw [yl, hn']))
    have n16' : n' ≤ 16 := by omega
    have nc' : n' ≤ c' := by omega
    have nn : n - 1 = n' := by omega
    have cc : c - 1 = c' := by omega
    clear hc' h0 h1 h2 h3
    by_cases hc1 : c = 1
    · obtain rfl : n' = 0 := by omega
      obtain rfl : n = 1 := by omega
      subst hc1
      clear hn' e1 e2 nn cc ST nc'
      go_wp2
      go_ret
      exact ⟨_, 0, 0, [], rfl, by omega, by omega, fun W _ => ⟨rfl, fun h => absurd h (by omega)⟩, ⟨_, by omega, R3.out⟩, G3.out⟩
    · clear hn'
      go_wp2
      go_ret
      exact ⟨_, n', c', ys.drop 9, rfl, n16', nc', ST.out, ⟨_, by omega, R3.out⟩, G3.out⟩
  have h4b : (s == 4) = false := by simpa using h4
  clear h0 h1 h2 h3 h4
  go_wp2
  go_ret
  exact ⟨_, n, c, ys, rfl, h16, hnc, fun W hW => (RW3.out.chg hW (by omega)).sts9 yl, ⟨_, by omega, R3.out⟩, G3.out⟩
/-- What drawing a tree leaves; a tree and a number; a tree and two numbers. -/
def DrawnT1 (w : World) (e : Ending) (w' : World) : Prop := ∃ (B : Option Addr) (n c : Nat) (ys : List Int), e = .returned (.slice B n c) ∧ Sts 9 w' B n ys ∧ n ≤ 16 ∧ n ≤ c ∧ New w w'
def DrawnT2 (w : World) (e : Ending) (w' : World) : Prop := ∃ (B : Option Addr) (n c : Nat) (ys : List Int) (x : Int), e = .returned (.tuple #[.slice B n c, .int .i64 x]) ∧ Sts 9 w' B n ys ∧ n ≤ 16 ∧ n ≤ c ∧ (-1 ≤ x ∧ x ≤ 16) ∧ New w w'
def DrawnT3 (w : World) (e : Ending) (w' : World) : Prop := ∃ (B : Option Addr) (n c : Nat) (ys : List Int) (x y : Int), e = .returned (.tuple #[.slice B n c, .int .i64 x, .int .i64 y]) ∧ Sts 9 w' B n ys ∧ n ≤ 16 ∧ n ≤ c ∧ (-1 ≤ x ∧ x ≤ 16) ∧ (-1 ≤ y ∧ y ≤ 16) ∧ New w w'
end Go.Proofs.YtffggmjhaaehlaaDoor
