/- Drawn lists of numbers: what spoiling a list leaves: a short list of small numbers that can be read, and a reader that has moved on. Conditions: the list is short, its numbers are small. -/
import Derived.Test.YtnipnemhbelcaaaApp
namespace Go.Proofs.Ytnipnemhbelcaaa
open Go.RowKit

theorem Sml.snoc {xs : List Int} {z : Int} (h : Sml xs) (hz : -1000000000 ≤ z ∧ z ≤ 1000000000) : Sml (xs ++ [z]) := fun y hy => by
  rcases List.mem_append.1 hy with h1 | h1
  · exact h y h1
  · rw [List.mem_singleton.1 h1]; exact hz
theorem Sml.nil : Sml [] := fun _ h => absurd h (by simp)
theorem Sml.set {xs : List Int} {z : Int} (h : Sml xs) (k : Nat) (hz : -1000000000 ≤ z ∧ z ≤ 1000000000) : Sml (xs.set k z) := fun y hy => by
  rcases List.mem_or_eq_of_mem_set hy with h1 | h1
  · exact h y h1
  · rw [h1]; exact hz
theorem Sml.drop {xs : List Int} (h : Sml xs) (k : Nat) : Sml (xs.drop k) := fun y hy => h y (List.mem_of_mem_drop hy)
theorem lit_at (zs : List Int) (w : World) (t : TypeId) (B : Nat) (hB : w.heap.size = B) : ∀ i, i < zs.length → (w.alloc (.cells (zs.map (Value.int .i64)).toArray t)).cell? ⟨B, i, none⟩ = some (.int .i64 (zs.getD i 0)) := fun i hi => by
  subst hB; exact lit_cells zs w t i hi
theorem one_sml {zs : List Int} {z : Int} (h : z ∈ zs) (hz : ∀ y ∈ zs, -1000000000 ≤ y ∧ y ≤ 1000000000) : -1000000000 ≤ z ∧ z ≤ 1000000000 := hz z h
/-- What a list that is drawn leaves: at most N small numbers that can be read; the reader moved on; nothing else turned. -/
def DrawnL (N s : Nat) (w : World) (a : Nat) (A : Option Addr) (m p : Nat) (e : Ending) (w' : World) : Prop :=
  ∃ (B : Option Addr) (n c : Nat) (ys : List Int), e = .returned (.slice B n c) ∧ (∀ w2, w'.grownBy w2 (some a) → Ints w2 B n ys) ∧ n ≤ N ∧ Sml ys ∧ (∃ q, q ≤ p + s ∧ Rdr w' a A m q) ∧ w.grownBy w' (some a)
/-- As before; the list begins a known block, or is none; it is no longer than its room. -/
def DrawnC (N s : Nat) (w : World) (a : Nat) (A : Option Addr) (m p : Nat) (e : Ending) (w' : World) : Prop :=
  ∃ (B : Option Addr) (n c : Nat) (ys : List Int), e = .returned (.slice B n c) ∧ (∀ w2, w'.grownBy w2 (some a) → Ints w2 B n ys) ∧ n ≤ N ∧ Sml ys ∧ (∃ q, q ≤ p + s ∧ Rdr w' a A m q) ∧ w.grownBy w' (some a) ∧ n ≤ c ∧ ((B = none ∧ n = 0) ∨ ∃ b off, B = some ⟨b, off, none⟩)
theorem DrawnC.less {N s : Nat} {w : World} {a : Nat} {A : Option Addr} {m p : Nat} {e : Ending} {w' : World} (h : DrawnC N s w a A m p e w') : DrawnL N s w a A m p e w' := by
  obtain ⟨B, n, c, ys, h1, h2, h3, h4, h5, h6, _⟩ := h
  exact ⟨B, n, c, ys, h1, h2, h3, h4, h5, h6⟩
theorem Own.plain {lo : Nat} {w : World} {A : Option Addr} {n c : Nat} {zs : List Int} (h : Own lo w (.slice A n c) zs) : (A = none ∧ n = 0) ∨ ∃ b off, A = some ⟨b, off, none⟩ := by
  rcases h.form with ⟨e, _⟩ | ⟨g, c', e, _⟩
  · injection e with e1 e2 e3
    exact .inl ⟨e1, e2⟩
  · injection e with e1 e2 e3
    exact .inr ⟨g, 0, e1⟩
set_option maxHeartbeats 4000000 in
theorem spoil_anyC (N : Nat) (hN : N ≤ 100) (B : Option Addr) (n c : Nat) (xs : List Int) (z : Int) (hz : -1000000000 ≤ z ∧ z ≤ 1000000000) (hn : n ≤ N) (hs : Sml xs)
    (a : Nat) (A : Option Addr) (m p : Nat) (hp : p ≤ 900000) (hm : m ≤ 2000) (w : World) (h : Rdr w a A m p) (hx : Ints w B n xs) :
    Calls Try.prog 47 #[.pointer (some ⟨a, 0, none⟩), .slice B n c, .int .i64 z] w (DrawnC (N + 1) 5 w a A m p) := by
  have hlt : a < w.heap.size := World.block_lt_of_cell? w ⟨a, 1, none⟩ h.pos
  have HR := Lib.hid h; have HX := Lib.hid hx; have HS := Lib.hid hs; have LX := Lib.hid hx.len
  clear h hx hs
  go_enter Try.func47, Try.ntmps47
  go_wp2_with fail
  refine (copyInts_any B n c xs (by omega) _ HX.out).mono ?_
  rintro e w1 ⟨v1, rfl, O1, N1⟩
  have HR1 := Lib.hid (HR.out.new N1)
  have O1 := Lib.hid O1; have N1 := Lib.hid N1
  go_wp2_with fail
  refine (pick_any 20 a A m p (by omega) hm _ HR1.out).mono ?_
  rintro e w2 ⟨k, rfl, k0, k1, R2, G2⟩
  have k1 := k1 (by omega)
  have z1 := N1.out.le
  have z2 := G2.size
  have O2 := Lib.hid (O1.out.kept G2 (fun g e => by have := Option.some.inj e; omega))
  have G2 := Lib.hid (only_trans (New.grown N1.out (some a)) G2)
  have R2 := Lib.hid R2
  have hv : ∃ A2 c2, v1 = .slice A2 n c2 ∧ n ≤ c2 ∧ Res w.heap.size w2.heap.size w2 A2 xs ∧ Hid ((A2 = none ∧ n = 0) ∨ ∃ b off, A2 = some ⟨b, off, none⟩) := by
    obtain ⟨A2, c2, e, h1, h2⟩ := O2.out.res
    rw [LX.out] at e h1
    exact ⟨A2, c2, e, h1, h2, Lib.hid (Own.plain (by rw [← e]; exact O2.out))⟩
  obtain ⟨A2, c2, rfl, hc2, Z2, PL⟩ := hv
  have Z2 := Lib.hid Z2
  have nn : (0 : Int) ≤ (n : Int) := by omega
  have nb : (n : Int) ≤ 100 := by omega
  have fin := Lib.hid (show DrawnC (N + 1) 5 w a A m p (.returned (.slice A2 n c2)) w2 from ⟨A2, n, c2, xs, rfl, fun w2 G => (Z2.out.chg (Chg.of_grown G (Nat.le_refl a) (Nat.lt_succ_self a)) (by omega)).ints LX.out, by omega, HS.out, ⟨p + 1, by omega, R2.out⟩, G2.out, hc2, PL.out⟩)
  by_cases e0 : k = 0
  · subst e0
    go_wp2_with (at_builtin; refine wp_app rfl _ _ rfl w.heap.size _ xs rfl (O2.out.alloc _) (some ⟨w2.heap.size, 0, none⟩) 1 1 [z] rfl (Ints.one w2 z _) (by rw [LX.out]; omega) (by simp; omega) ?_; intro v3 w3 O3 G3; obtain ⟨A3, c3, rfl, hc3, Z3⟩ := O3.res; (have P3 := O3.plain))
    go_ret
    exact ⟨A3, _, c3, xs ++ [z], rfl, fun w2 G => (Z3.chg (Chg.of_grown G (Nat.le_refl a) (Nat.lt_succ_self a)) (by omega)).ints (by simp), by have := LX.out; simp; omega, HS.out.snoc hz, ⟨p + 1, by omega, (R2.out.new ((New.refl _).alloc _)).own G3 (O2.out.alloc _) hlt⟩,
      only_own (only_alloc G2.out _) G3 (O2.out.alloc _) (Nat.le_refl _), by simpa using hc3, by simpa using P3⟩
  · by_cases e1 : k = 1
    · subst e1
      clear e0
      rcases Nat.eq_zero_or_pos n with rfl | h0
      · go_wp2
        go_ret
        exact fin.out
      · obtain ⟨g, rfl, g1, g2, RW⟩ := Z2.out.2 (by rw [LX.out]; exact h0)
        have RW := Lib.hid RW
        have h1 : (1 : Int) ≤ (n : Int) := by omega
        by_cases hc : c2 = 1
        · have hn1 : n = 1 := by omega
          subst hc hn1
          go_wp2
          go_ret
          exact ⟨_, 0, _, [], rfl, fun _ _ => ⟨rfl, fun h => absurd h (by omega)⟩, by omega, Sml.nil, ⟨p + 1, by omega, R2.out⟩, G2.out, Nat.zero_le _, .inr ⟨_, _, rfl⟩⟩
        · have hc' : 2 ≤ c2 := by omega
          have hcc := Lib.hid hc
          go_wp2
          go_ret
          refine ⟨some ⟨g, 1, none⟩, n - 1, c2 - 1, xs.drop 1, rfl, fun w2 G => ⟨by rw [List.length_drop, LX.out], fun _ => ⟨g, 1, rfl, (RW.out.chg (Chg.of_grown G (Nat.le_refl a) (Nat.lt_succ_self a)) (by omega)).lt, fun i hi => ?_⟩⟩, by omega, HS.out.drop 1, ⟨p + 1, by omega, R2.out⟩, G2.out, by omega, .inr ⟨_, _, rfl⟩⟩
          have hh := (RW.out.chg (Chg.of_grown G (Nat.le_refl a) (Nat.lt_succ_self a)) (by omega)).c (1 + i) (by rw [LX.out]; omega)
          have e : (xs.drop 1).getD i 0 = xs.getD (1 + i) 0 := by simp [Nat.add_comm]
          rw [e]
          exact hh
    · by_cases e2 : k = 2
      · subst e2
        clear e0 e1
        rcases Nat.eq_zero_or_pos n with rfl | h0
        · go_wp2
          go_ret
          exact fin.out
        · obtain ⟨g, rfl, g1, g2, RW⟩ := Z2.out.2 (by rw [LX.out]; exact h0)
          have h1 : (1 : Int) ≤ (n : Int) := by omega
          have RW := Lib.hid RW
          go_wp2_with fail
          refine (pick_any _ a A m (p + 1) (by omega) hm _ R2.out).mono ?_
          rintro e w3 ⟨i, rfl, i0, i1, R3, G3⟩
          have i1 := i1 h1
          obtain ⟨i, rfl⟩ := Int.eq_ofNat_of_zero_le i0
          have z3 := G3.size
          have RW3 := Lib.hid (RW.out.chg (Chg.of_grown G3 (Nat.le_refl a) (Nat.lt_succ_self a)) (by omega))
          have G3 := Lib.hid (only_trans G2.out G3); have R3 := Lib.hid R3
          go_wp2_with fail
          refine (one_any [-1, z, 0, 1] (by simp) (by simp) w3.heap.size 4 a A m (p + 1 + 1) (by omega) hm _ (R3.out.new (by (repeat (first | exact New.refl _ | assumption | refine New.alloc ?_ _ | refine New.drew ?_ | refine New.drewN ?_ _ | refine New.setCell ?_ (by first | omega | (simp; omega) | (simp; done)) _ | refine New.trans ?_ (by assumption))))) (by omega) (by simp) (lit_cells [-1, z, 0, 1] _ _)).mono ?_
          rintro e w4 ⟨y, rfl, hy, R4, G4⟩
          have yb : -1000000000 ≤ y ∧ y ≤ 1000000000 := by
            simp at hy
            omega
          have RW4 := Lib.hid ((RW3.out.new ((New.refl _).alloc _)).chg (Chg.of_grown G4 (Nat.le_refl a) (Nat.lt_succ_self a)) (by omega))
          have G4 := Lib.hid (only_trans (only_alloc G3.out _) G4); have R4 := Lib.hid R4
          have il : i < xs.length := by rw [LX.out]; omega
          have fi := RW4.out.f i il
          have oi := RW4.out.c i il
          have S4 := Lib.hid (RW4.out.set_ il y)
          have IL := Lib.hid il
          clear hy il
          generalize xs.getD i 0 = z' at oi
          go_wp2
          go_ret
          refine ⟨some ⟨g, 0, none⟩, n, c2, xs.set i y, rfl, fun w2 G => by have h := (S4.out.chg (Chg.of_grown G (Nat.le_refl a) (Nat.lt_succ_self a)) (by omega)).ints; rw [List.length_set, LX.out] at h; exact h, by omega, HS.out.set i yb, ⟨p + 1 + 1 + 1, by omega, R4.out.set (by first | omega | (simp; omega) | (simp; done)) _⟩, only_set G4.out (by first | omega | (simp; omega) | (simp; done)) _, hc2, .inr ⟨_, _, rfl⟩⟩
      · go_wp2
        go_ret
        exact fin.out
theorem spoil_any (N : Nat) (hN : N ≤ 100) (B : Option Addr) (n c : Nat) (xs : List Int) (z : Int) (hz : -1000000000 ≤ z ∧ z ≤ 1000000000) (hn : n ≤ N) (hs : Sml xs)
    (a : Nat) (A : Option Addr) (m p : Nat) (hp : p ≤ 900000) (hm : m ≤ 2000) (w : World) (h : Rdr w a A m p) (hx : Ints w B n xs) :
    Calls Try.prog 47 #[.pointer (some ⟨a, 0, none⟩), .slice B n c, .int .i64 z] w (DrawnL (N + 1) 5 w a A m p) :=
  (spoil_anyC N hN B n c xs z hz hn hs a A m p hp hm w h hx).mono fun _ _ h => h.less
end Go.Proofs.Ytnipnemhbelcaaa
