/- Parts that belong together: Spoil, DrawOf, DrawTr, DrawTs, DrawTt, DrawSd, DrawLt. Conditions: as each part says. -/
import Derived.Test.YtobnjagmakhgpaaZC
import Derived.Test.YtobnjagmakhgpaaTreeA
/- Drawn lists of numbers: what spoiling a list leaves: a short list of small numbers that can be read, and a reader that has moved on. Conditions: the list is short, its numbers are small. -/
namespace Go.Proofs.Ytobnjagmakhgpaa
open Go.RowKit

theorem Sml.snoc {xs : List Int} {z : Int} (h : Sml xs) (hz : -1000000000 ≤ z ∧ z ≤ 1000000000) : Sml (xs ++ [z]) := fun y hy => by
  rcases List.mem_append.1 hy with h1 | h1
  · exact h y h1
  · rw [List.mem_singleton.1 h1]; exact hz
theorem Sml.nil : Sml [] := fun _ h => absurd h (by simp)
theorem Sml.set {xs : List Int} {z : Int} (h : Sml xs) (k : Nat) (hz : -1000000000 ≤ z ∧ z ≤ 1000000000) : Sml (xs.set k z) := fun y hy => by
  rcases List.mem_or_eq_of_mem_set hy with h1 | h1
  · exact h y h1
  · rw [h1]; exact hz
theorem Sml.drop {xs : List Int} (h : Sml xs) (k : Nat) : Sml (xs.drop k) := fun y hy => h y (List.mem_of_mem_drop hy)
theorem lit_at (zs : List Int) (w : World) (t : TypeId) (B : Nat) (hB : w.heap.size = B) : ∀ i, i < zs.length → (w.alloc (.cells (zs.map (Value.int .i64)).toArray t)).cell? ⟨B, i, none⟩ = some (.int .i64 (zs.getD i 0)) := fun i hi => by
  subst hB; exact lit_cells zs w t i hi
theorem one_sml {zs : List Int} {z : Int} (h : z ∈ zs) (hz : ∀ y ∈ zs, -1000000000 ≤ y ∧ y ≤ 1000000000) : -1000000000 ≤ z ∧ z ≤ 1000000000 := hz z h
/-- What a list that is drawn leaves: at most N small numbers that can be read; the reader moved on; nothing else turned. -/
def DrawnL (N s : Nat) (w : World) (a : Nat) (A : Option Addr) (m p : Nat) (e : Ending) (w' : World) : Prop :=
  ∃ (B : Option Addr) (n c : Nat) (ys : List Int), e = .returned (.slice B n c) ∧ (∀ w2, w'.grownBy w2 (some a) → Ints w2 B n ys) ∧ n ≤ N ∧ Sml ys ∧ (∃ q, q ≤ p + s ∧ Rdr w' a A m q) ∧ w.grownBy w' (some a)
/-- As before; the list begins a known block, or is none; it is no longer than its room. -/
def DrawnC (N s : Nat) (w : World) (a : Nat) (A : Option Addr) (m p : Nat) (e : Ending) (w' : World) : Prop :=
  ∃ (B : Option Addr) (n c : Nat) (ys : List Int), e = .returned (.slice B n c) ∧ (∀ w2, w'.grownBy w2 (some a) → Ints w2 B n ys) ∧ n ≤ N ∧ Sml ys ∧ (∃ q, q ≤ p + s ∧ Rdr w' a A m q) ∧ w.grownBy w' (some a) ∧ n ≤ c ∧ ((B = none ∧ n = 0) ∨ ∃ b off, B = some ⟨b, off, none⟩)
theorem DrawnC.less {N s : Nat} {w : World} {a : Nat} {A : Option Addr} {m p : Nat} {e : Ending} {w' : World} (h : DrawnC N s w a A m p e w') : DrawnL N s w a A m p e w' := by
  obtain ⟨B, n, c, ys, h1, h2, h3, h4, h5, h6, _⟩ := h
  exact ⟨B, n, c, ys, h1, h2, h3, h4, h5, h6⟩
theorem Own.plain {lo : Nat} {w : World} {A : Option Addr} {n c : Nat} {zs : List Int} (h : Own lo w (.slice A n c) zs) : (A = none ∧ n = 0) ∨ ∃ b off, A = some ⟨b, off, none⟩ := by
  rcases h.form with ⟨e, _⟩ | ⟨g, c', e, _⟩
  · injection e with e1 e2 e3
    exact .inl ⟨e1, e2⟩
  · injection e with e1 e2 e3
    exact .inr ⟨g, 0, e1⟩
set_option maxHeartbeats 4000000 in
theorem spoil_anyC (N : Nat) (hN : N ≤ 100) (B : Option Addr) (n c : Nat) (xs : List Int) (z : Int) (hz : -1000000000 ≤ z ∧ z ≤ 1000000000) (hn : n ≤ N) (hs : Sml xs)
    (a : Nat) (A : Option Addr) (m p : Nat) (hp : p ≤ 900000) (hm : m ≤ 2000) (w : World) (h : Rdr w a A m p) (hx : Ints w B n xs) :
    Calls Try.prog 89 #[.pointer (some ⟨a, 0, none⟩), .slice B n c, .int .i64 z] w (DrawnC (N + 1) 5 w a A m p) := by
  have hlt : a < w.heap.size := World.block_lt_of_cell? w ⟨a, 1, none⟩ h.pos
  have HR := Lib.hid h; have HX := Lib.hid hx; have HS := Lib.hid hs; have LX := Lib.hid hx.len
  clear h hx hs
  go_enter Try.func89, Try.ntmps89
  go_wp2_with fail
  refine (copyInts_any B n c xs (by omega) _ HX.out).mono ?_
  rintro e w1 ⟨v1, rfl, O1, N1⟩
  have HR1 := Lib.hid (HR.out.new N1)
  have O1 := Lib.hid O1; have N1 := Lib.hid N1
  go_wp2_with fail
  refine (pick_any 20 a A m p (by omega) hm _ HR1.out).mono ?_
  rintro e w2 ⟨k, rfl, k0, k1, R2, G2⟩
  have k1 := k1 (by omega)
  have z1 := N1.out.le
  have z2 := G2.size
  have O2 := Lib.hid (O1.out.kept G2 (fun g e => by have := Option.some.inj e; omega))
  have G2 := Lib.hid (only_trans (New.grown N1.out (some a)) G2)
  have R2 := Lib.hid R2
  have hv : ∃ A2 c2, v1 = .slice A2 n c2 ∧ n ≤ c2 ∧ Res w.heap.size w2.heap.size w2 A2 xs ∧ Hid ((A2 = none ∧ n = 0) ∨ ∃ b off, A2 = some ⟨b, off, none⟩) := by
    obtain ⟨A2, c2, e, h1, h2⟩ := O2.out.res
    rw [LX.out] at e h1
    exact ⟨A2, c2, e, h1, h2, Lib.hid (Own.plain (by rw [← e]; exact O2.out))⟩
  obtain ⟨A2, c2, rfl, hc2, Z2, PL⟩ := hv
  have Z2 := Lib.hid Z2
  have nn : (0 : Int) ≤ (n : Int) := by omega
  have nb : (n : Int) ≤ 100 := by omega
  have fin := Lib.hid (show DrawnC (N + 1) 5 w a A m p (.returned (.slice A2 n c2)) w2 from ⟨A2, n, c2, xs, rfl, fun w2 G => (Z2.out.chg (Chg.of_grown G (Nat.le_refl a) (Nat.lt_succ_self a)) (by omega)).ints LX.out, by omega, HS.out, ⟨p + 1, by omega, R2.out⟩, G2.out, hc2, PL.out⟩)
  by_cases e0 : k = 0
  · subst e0
    go_wp2_with (at_builtin; refine wp_app rfl _ _ rfl w.heap.size _ xs rfl (O2.out.alloc _) (some ⟨w2.heap.size, 0, none⟩) 1 1 [z] rfl (Ints.one w2 z _) (by rw [LX.out]; omega) (by simp; omega) ?_; intro v3 w3 O3 G3; obtain ⟨A3, c3, rfl, hc3, Z3⟩ := O3.res; (have P3 := O3.plain))
    go_ret
    exact ⟨A3, _, c3, xs ++ [z], rfl, fun w2 G => (Z3.chg (Chg.of_grown G (Nat.le_refl a) (Nat.lt_succ_self a)) (by omega)).ints (by simp), by have := LX.out; simp; omega, HS.out.snoc hz, ⟨p + 1, by omega, (R2.out.new ((New.refl _).alloc _)).own G3 (O2.out.alloc _) hlt⟩,
      only_own (only_alloc G2.out _) G3 (O2.out.alloc _) (Nat.le_refl _), by simpa using hc3, by simpa using P3⟩
  · by_cases e1 : k = 1
    · subst e1
      clear e0
      rcases Nat.eq_zero_or_pos n with rfl | h0
      · go_wp2
        go_ret
        exact fin.out
      · obtain ⟨g, rfl, g1, g2, RW⟩ := Z2.out.2 (by rw [LX.out]; exact h0)
        have RW := Lib.hid RW
        have h1 : (1 : Int) ≤ (n : Int) := by omega
        by_cases hc : c2 = 1
        · have hn1 : n = 1 := by omega
          subst hc hn1
          go_wp2
          go_ret
          exact ⟨_, 0, _, [], rfl, fun _ _ => ⟨rfl, fun h => absurd h (by omega)⟩, by omega, Sml.nil, ⟨p + 1, by omega, R2.out⟩, G2.out, Nat.zero_le _, .inr ⟨_, _, rfl⟩⟩
        · have hc' : 2 ≤ c2 := by omega
          have hcc := Lib.hid hc
          go_wp2
          go_ret
          refine ⟨some ⟨g, 1, none⟩, n - 1, c2 - 1, xs.drop 1, rfl, fun w2 G => ⟨by rw [List.length_drop, LX.out], fun _ => ⟨g, 1, rfl, (RW.out.chg (Chg.of_grown G (Nat.le_refl a) (Nat.lt_succ_self a)) (by omega)).lt, fun i hi => ?_⟩⟩, by omega, HS.out.drop 1, ⟨p + 1, by omega, R2.out⟩, G2.out, by omega, .inr ⟨_, _, rfl⟩⟩
          have hh := (RW.out.chg (Chg.of_grown G (Nat.le_refl a) (Nat.lt_succ_self a)) (by omega)).c (1 + i) (by rw [LX.out]; omega)
          have e : (xs.drop 1).getD i 0 = xs.getD (1 + i) 0 := by simp [Nat.add_comm]
          rw [e]
          exact hh
    · by_cases e2 : k = 2
      · subst e2
        clear e0 e1
        rcases Nat.eq_zero_or_pos n with rfl | h0
        · go_wp2
          go_ret
          exact fin.out
        · obtain ⟨g, rfl, g1, g2, RW⟩ := Z2.out.2 (by rw [LX.out]; exact h0)
          have h1 : (1 : Int) ≤ (n : Int) := by omega
          have RW := Lib.hid RW
          go_wp2_with fail
          refine (pick_any _ a A m (p + 1) (by omega) hm _ R2.out).mono ?_
          rintro e w3 ⟨i, rfl, i0, i1, R3, G3⟩
          have i1 := i1 h1
          obtain ⟨i, rfl⟩ := Int.eq_ofNat_of_zero_le i0
          have z3 := G3.size
          have RW3 := Lib.hid (RW.out.chg (Chg.of_grown G3 (Nat.le_refl a) (Nat.lt_succ_self a)) (by omega))
          have G3 := Lib.hid (only_trans G2.out G3); have R3 := Lib.hid R3
          go_wp2_with fail
          refine (one_any [-1, z, 0, 1] (by simp) (by simp) w3.heap.size 4 a A m (p + 1 + 1) (by omega) hm _ (R3.out.new (by (repeat (first | exact New.refl _ | assumption | refine New.alloc ?_ _ | refine New.drew ?_ | refine New.drewN ?_ _ | refine New.setCell ?_ (by first | omega | (simp; omega) | (simp; done)) _ | refine New.trans ?_ (by assumption))))) (by omega) (by simp) (lit_cells [-1, z, 0, 1] _ _)).mono ?_
          rintro e w4 ⟨y, rfl, hy, R4, G4⟩
          have yb : -1000000000 ≤ y ∧ y ≤ 1000000000 := by
            simp at hy
            omega
          have RW4 := Lib.hid ((RW3.out.new ((New.refl _).alloc _)).chg (Chg.of_grown G4 (Nat.le_refl a) (Nat.lt_succ_self a)) (by omega))
          have G4 := Lib.hid (only_trans (only_alloc G3.out _) G4); have R4 := Lib.hid R4
          have il : i < xs.length := by rw [LX.out]; omega
          have fi := RW4.out.f i il
          have oi := RW4.out.c i il
          have S4 := Lib.hid (RW4.out.set_ il y)
          have IL := Lib.hid il
          clear hy il
          generalize xs.getD i 0 = z' at oi
          go_wp2
          go_ret
          refine ⟨some ⟨g, 0, none⟩, n, c2, xs.set i y, rfl, fun w2 G => by have h := (S4.out.chg (Chg.of_grown G (Nat.le_refl a) (Nat.lt_succ_self a)) (by omega)).ints; rw [List.length_set, LX.out] at h; exact h, by omega, HS.out.set i yb, ⟨p + 1 + 1 + 1, by omega, R4.out.set (by first | omega | (simp; omega) | (simp; done)) _⟩, only_set G4.out (by first | omega | (simp; omega) | (simp; done)) _, hc2, .inr ⟨_, _, rfl⟩⟩
      · go_wp2
        go_ret
        exact fin.out
theorem spoil_any (N : Nat) (hN : N ≤ 100) (B : Option Addr) (n c : Nat) (xs : List Int) (z : Int) (hz : -1000000000 ≤ z ∧ z ≤ 1000000000) (hn : n ≤ N) (hs : Sml xs)
    (a : Nat) (A : Option Addr) (m p : Nat) (hp : p ≤ 900000) (hm : m ≤ 2000) (w : World) (h : Rdr w a A m p) (hx : Ints w B n xs) :
    Calls Try.prog 89 #[.pointer (some ⟨a, 0, none⟩), .slice B n c, .int .i64 z] w (DrawnL (N + 1) 5 w a A m p) :=
  (spoil_anyC N hN B n c xs z hz hn hs a A m p hp hm w h hx).mono fun _ _ h => h.less
end Go.Proofs.Ytobnjagmakhgpaa

/- The drawn arguments of OffsetsOf: a short list of small numbers, a space, a gap, a way to justify. Condition: the code can be read. -/
namespace Go.Proofs.Ytobnjagmakhgpaa
open Go.RowKit

/-- What a drawn number leaves. -/
def DrawnI (s : Nat) (w : World) (a : Nat) (A : Option Addr) (m p : Nat) (e : Ending) (w' : World) : Prop :=
  ∃ z : Int, e = .returned (.int .i64 z) ∧ (-1000000000 ≤ z ∧ z ≤ 1000000000) ∧ (∃ q, q ≤ p + s ∧ Rdr w' a A m q) ∧ w.grownBy w' (some a)
/-- What drawing a list and three numbers leaves. -/
def DrawnLNNN (N : Nat) (w : World) (e : Ending) (w' : World) : Prop :=
  ∃ (B : Option Addr) (n c : Nat) (ys : List Int) (x y z : Int), e = .returned (.tuple #[.slice B n c, .int .i64 x, .int .i64 y, .int .i64 z]) ∧ Ints w' B n ys ∧ n ≤ N ∧ Sml ys ∧ (-1000000000 ≤ x ∧ x ≤ 1000000000) ∧ (-1000000000 ≤ y ∧ y ≤ 1000000000) ∧ (-1000000000 ≤ z ∧ z ≤ 1000000000) ∧ New w w'
end Go.Proofs.Ytobnjagmakhgpaa

/- Drawn trees: a short list of boxes that can be read, and a reader that has moved on. Condition: the code can be read. -/
namespace Go.Proofs.Ytobnjagmakhgpaa
open Go.RowKit

/-- What drawing a box leaves. -/
def DrawnB (w : World) (a : Nat) (A : Option Addr) (m p : Nat) (e : Ending) (w' : World) : Prop :=
  ∃ y1 y2 y3 y4 y5 y6 y7 y8 : Int, e = .returned (.agg #[.int .i64 0, .int .i64 y1, .int .i64 y2, .int .i64 y3, .int .i64 y4, .int .i64 y5, .int .i64 y6, .int .i64 y7, .int .i64 y8]) ∧ (∃ q, q ≤ p + 8 ∧ Rdr w' a A m q) ∧ w.grownBy w' (some a)
set_option maxRecDepth 100000 in
set_option maxHeartbeats 1000000 in
theorem someBox_any (a : Nat) (A : Option Addr) (m p : Nat) (hp : p ≤ 900000) (hm : m ≤ 2000) (w : World) (h : Rdr w a A m p) :
    Calls Try.prog 57 #[.pointer (some ⟨a, 0, none⟩)] w (DrawnB w a A m p) := by
  have hlt : a < w.heap.size := World.block_lt_of_cell? w ⟨a, 1, none⟩ h.pos
  have HR := Lib.hid h
  clear h
  go_enter Try.func57, Try.ntmps57
  go_wp2_with fail
  refine (pick_any 4 a A m p (by omega) hm _ (HR.out.new (by (repeat (first | exact New.refl _ | assumption | refine New.alloc ?_ _ | refine New.drew ?_ | refine New.drewN ?_ _ | refine New.setCell ?_ (by first | omega | (simp; omega) | (simp; done)) _ | refine New.trans ?_ (by assumption)))))).mono ?_
  rintro e w1 ⟨v1, rfl, _, _, R1, G1⟩
  have z1 := G1.size; simp at z1
  replace R1 := Lib.hid R1; have H1 := Lib.hid G1; replace G1 := Lib.hid (only_trans (only_alloc only_refl _) G1)
  go_wp2_with fail
  refine (one_any [0, 0, 1, 5] (by simp) (by simp) w1.heap.size 4 a A m (p + 1) (by omega) hm _ (R1.out.new (by (repeat (first | exact New.refl _ | assumption | refine New.alloc ?_ _ | refine New.drew ?_ | refine New.drewN ?_ _ | refine New.setCell ?_ (by first | omega | (simp; omega) | (simp; done)) _ | refine New.trans ?_ (by assumption))))) (by omega) (by simp) (lit_at [0, 0, 1, 5] _ _ _ rfl)).mono ?_
  rintro e w2 ⟨v2, rfl, _, R2, G2⟩
  have z2 := G2.size; simp at z2
  replace R2 := Lib.hid R2; have H2 := Lib.hid (only_trans (only_alloc H1.out _) G2); replace G2 := Lib.hid (only_trans (only_alloc G1.out _) G2)
  go_wp2_with fail
  refine (one_any [0, 2, 0, 5] (by simp) (by simp) w2.heap.size 4 a A m (p + 2) (by omega) hm _ (R2.out.new (by (repeat (first | exact New.refl _ | assumption | refine New.alloc ?_ _ | refine New.drew ?_ | refine New.drewN ?_ _ | refine New.setCell ?_ (by first | omega | (simp; omega) | (simp; done)) _ | refine New.trans ?_ (by assumption))))) (by omega) (by simp) (lit_at [0, 2, 0, 5] _ _ _ rfl)).mono ?_
  rintro e w3 ⟨v3, rfl, _, R3, G3⟩
  have z3 := G3.size; simp at z3
  replace R3 := Lib.hid R3; have H3 := Lib.hid (only_trans (only_alloc H2.out _) G3); replace G3 := Lib.hid (only_trans (only_alloc G2.out _) G3)
  go_wp2_with fail
  refine (one_any [0, 1, 2, 0] (by simp) (by simp) w3.heap.size 4 a A m (p + 3) (by omega) hm _ (R3.out.new (by (repeat (first | exact New.refl _ | assumption | refine New.alloc ?_ _ | refine New.drew ?_ | refine New.drewN ?_ _ | refine New.setCell ?_ (by first | omega | (simp; omega) | (simp; done)) _ | refine New.trans ?_ (by assumption))))) (by omega) (by simp) (lit_at [0, 1, 2, 0] _ _ _ rfl)).mono ?_
  rintro e w4 ⟨v4, rfl, _, R4, G4⟩
  have z4 := G4.size; simp at z4
  replace R4 := Lib.hid R4; have H4 := Lib.hid (only_trans (only_alloc H3.out _) G4); replace G4 := Lib.hid (only_trans (only_alloc G3.out _) G4)
  go_wp2_with fail
  refine (one_any [0, 1, 1, 3] (by simp) (by simp) w4.heap.size 4 a A m (p + 4) (by omega) hm _ (R4.out.new (by (repeat (first | exact New.refl _ | assumption | refine New.alloc ?_ _ | refine New.drew ?_ | refine New.drewN ?_ _ | refine New.setCell ?_ (by first | omega | (simp; omega) | (simp; done)) _ | refine New.trans ?_ (by assumption))))) (by omega) (by simp) (lit_at [0, 1, 1, 3] _ _ _ rfl)).mono ?_
  rintro e w5 ⟨v5, rfl, _, R5, G5⟩
  have z5 := G5.size; simp at z5
  replace R5 := Lib.hid R5; have H5 := Lib.hid (only_trans (only_alloc H4.out _) G5); replace G5 := Lib.hid (only_trans (only_alloc G4.out _) G5)
  go_wp2_with fail
  refine (pick_any 4 a A m (p + 4 + 1) (by omega) hm _ R5.out).mono ?_
  rintro e w6 ⟨v6, rfl, _, _, R6, G6⟩
  have z6 := G6.size
  replace R6 := Lib.hid R6; have H6 := Lib.hid (only_trans H5.out G6); replace G6 := Lib.hid (only_trans G5.out G6)
  have c0 : ∀ o, o < 9 → w6.cell? ⟨w.heap.size, o, none⟩ = some (.int .i64 0) := fun o ho => (only_cells (w0 := w.alloc (.cells #[.int .i64 0, .int .i64 0, .int .i64 0, .int .i64 0, .int .i64 0, .int .i64 0, .int .i64 0, .int .i64 0, .int .i64 0] 30)) H6.out w.heap.size o (by simp) (by omega)).trans (by
    match o, ho with
    | 0, _ => simp [go_sem]
    | 1, _ => simp [go_sem]
    | 2, _ => simp [go_sem]
    | 3, _ => simp [go_sem]
    | 4, _ => simp [go_sem]
    | 5, _ => simp [go_sem]
    | 6, _ => simp [go_sem]
    | 7, _ => simp [go_sem]
    | 8, _ => simp [go_sem]
    | o + 9, h => omega)
  have f0 : ∀ o, w6.frozen? ⟨w.heap.size, o, none⟩ = false := fun o => (only_marks H6.out w.heap.size o (by simp) (by omega)).trans (by simp [go_sem])
  have ltr : w.heap.size < w6.heap.size := by omega
  have RR := Lib.hid ((⟨ltr, fun o ho => (c0 o (by simpa using ho)).trans (by simp; match o, ho with | 0, _ => rfl | 1, _ => rfl | 2, _ => rfl | 3, _ => rfl | 4, _ => rfl | 5, _ => rfl | 6, _ => rfl | 7, _ => rfl | 8, _ => rfl | o + 9, h => exact absurd h (by simp)), fun o _ => f0 o⟩ : Row w6 w.heap.size [0, 0, 0, 0, 0, 0, 0, 0, 0]).new ((New.refl w6).alloc (.cells #[.int .i64 0, .int .i64 v1, .int .i64 0, .int .i64 0, .int .i64 v2, .int .i64 v3, .int .i64 v4, .int .i64 v5, .int .i64 v6] 30)))
  have RT := Lib.hid (Row.oneBox w6 0 v1 0 0 v2 v3 v4 v5 v6 30)
  have R7 := Lib.hid (R6.out.new ((New.refl w6).alloc (.cells #[.int .i64 0, .int .i64 v1, .int .i64 0, .int .i64 0, .int .i64 v2, .int .i64 v3, .int .i64 v4, .int .i64 v5, .int .i64 v6] 30)))
  have G7 := Lib.hid (only_alloc G6.out (.cells #[.int .i64 0, .int .i64 v1, .int .i64 0, .int .i64 0, .int .i64 v2, .int .i64 v3, .int .i64 v4, .int .i64 v5, .int .i64 v6] 30))
  have lt7 : w6.heap.size < (w6.alloc (.cells #[.int .i64 0, .int .i64 v1, .int .i64 0, .int .i64 0, .int .i64 v2, .int .i64 v3, .int .i64 v4, .int .i64 v5, .int .i64 v6] 30)).heap.size := by simp
  clear H1 H2 H3 H4 H5 H6 c0 f0 R1 R2 R3 R4 R5 R6 G1 G2 G3 G4 G5 G6
  go_upto_region 2 with fail
  generalize w6.alloc (.cells #[.int .i64 0, .int .i64 v1, .int .i64 0, .int .i64 0, .int .i64 v2, .int .i64 v3, .int .i64 v4, .int .i64 v5, .int .i64 v6] 30) = wB at *
  by_cases hv : v1 = 0
  · subst hv
    have k0 := RT.out.c 1 (by simp)
    simp only [List.getD_cons_zero, List.getD_cons_succ] at k0
    go_wp2_with fail
    refine (one_any [10, 30, 50, 0, 100, 7] (by simp) (by simp) wB.heap.size 6 a A m (p + 4 + 1 + 1) (by omega) hm _ (R7.out.new (by (repeat (first | exact New.refl _ | assumption | refine New.alloc ?_ _ | refine New.drew ?_ | refine New.drewN ?_ _ | refine New.setCell ?_ (by first | omega | (simp; omega) | (simp; done)) _ | refine New.trans ?_ (by assumption))))) (by omega) (by simp) (lit_at [10, 30, 50, 0, 100, 7] _ _ _ rfl)).mono ?_
    rintro e w8 ⟨v7, rfl, _, R8, G8⟩
    have z8 := G8.size; simp at z8
    have RT2 := Lib.hid ((RT.out.new ((New.refl _).alloc (.cells ([10, 30, 50, 0, 100, 7].map (Value.int .i64)).toArray 3))).chg (Chg.of_grown G8 (Nat.le_refl a) (Nat.lt_succ_self a)) (by omega))
    have RR2 := Lib.hid ((RR.out.new ((New.refl _).alloc (.cells ([10, 30, 50, 0, 100, 7].map (Value.int .i64)).toArray 3))).chg (Chg.of_grown G8 (Nat.le_refl a) (Nat.lt_succ_self a)) (by omega))
    replace G8 := Lib.hid (only_trans (only_alloc G7.out _) G8); replace R8 := Lib.hid R8
    have s0 := RT2.out.c 2 (by simp); have q0 := RT2.out.f 2 (by simp)
    simp only [List.getD_cons_zero, List.getD_cons_succ] at s0
    have RT3 : Hid (Row (w8.setCell ⟨w6.heap.size, 2, none⟩ (.int .i64 v7)) w6.heap.size [0, 0, v7, 0, v2, v3, v4, v5, v6]) := Lib.hid (RT2.out.set_ (k := 2) (by simp) v7)
    have RR3 := Lib.hid (RR2.out.far (p := ⟨w6.heap.size, 2, none⟩) (by simp; omega) (.int .i64 v7))
    have R9 := Lib.hid (R8.out.set (q := ⟨w6.heap.size, 2, none⟩) (by simp; omega) (.int .i64 v7))
    have G9 := Lib.hid (only_set G8.out (q := ⟨w6.heap.size, 2, none⟩) (by simp; omega) (.int .i64 v7))
    have z9 : (w8.setCell ⟨w6.heap.size, 2, none⟩ (.int .i64 v7)).heap.size = w8.heap.size := by simp [World.setCell]
    clear RT RR RT2 RR2 R7 G7 R8 G8 k0
    go_upto_region 4 with fail
    generalize w8.setCell ⟨w6.heap.size, 2, none⟩ (.int .i64 v7) = wC at *
    clear s0 q0
    have z10 : w6.heap.size < wC.heap.size := by omega
    clear z9
    go_wp2_with fail
    refine (one_any [10, 20, 0, 40, 100, 3] (by simp) (by simp) wC.heap.size 6 a A m (p + 4 + 1 + 1 + 1) (by omega) hm _ (R9.out.new (by (repeat (first | exact New.refl _ | assumption | refine New.alloc ?_ _ | refine New.drew ?_ | refine New.drewN ?_ _ | refine New.setCell ?_ (by first | omega | (simp; omega) | (simp; done)) _ | refine New.trans ?_ (by assumption))))) (by omega) (by simp) (lit_at [10, 20, 0, 40, 100, 3] _ _ _ rfl)).mono ?_
    rintro e w11 ⟨v8, rfl, _, R11, G11⟩
    have z11 := G11.size; simp at z11
    have RT4 := Lib.hid ((RT3.out.new ((New.refl _).alloc (.cells ([10, 20, 0, 40, 100, 3].map (Value.int .i64)).toArray 3))).chg (Chg.of_grown G11 (Nat.le_refl a) (Nat.lt_succ_self a)) (by omega))
    have RR4 := Lib.hid ((RR3.out.new ((New.refl _).alloc (.cells ([10, 20, 0, 40, 100, 3].map (Value.int .i64)).toArray 3))).chg (Chg.of_grown G11 (Nat.le_refl a) (Nat.lt_succ_self a)) (by omega))
    replace G11 := Lib.hid (only_trans (only_alloc G9.out _) G11); replace R11 := Lib.hid R11
    have s0 := RT4.out.c 3 (by simp); have q0 := RT4.out.f 3 (by simp)
    simp only [List.getD_cons_zero, List.getD_cons_succ] at s0
    have RT5 : Hid (Row (w11.setCell ⟨w6.heap.size, 3, none⟩ (.int .i64 v8)) w6.heap.size [0, 0, v7, v8, v2, v3, v4, v5, v6]) := Lib.hid (RT4.out.set_ (k := 3) (by simp) v8)
    have RR5 := Lib.hid (RR4.out.far (p := ⟨w6.heap.size, 3, none⟩) (by simp; omega) (.int .i64 v8))
    have R12 := Lib.hid (R11.out.set (q := ⟨w6.heap.size, 3, none⟩) (by simp; omega) (.int .i64 v8))
    have G12 := Lib.hid (only_set G11.out (q := ⟨w6.heap.size, 3, none⟩) (by simp; omega) (.int .i64 v8))
    clear RT3 RR3 RT4 RR4 R9 G9 R11 G11
    go_upto_region 5 with fail
    generalize w11.setCell ⟨w6.heap.size, 3, none⟩ (.int .i64 v8) = wD at *
    clear s0 q0
    have t0 := RT5.out.c 0 (by simp); have r0 := RR5.out.c 0 (by simp); have f0 := RR5.out.f 0 (by simp)
    have t1 := RT5.out.c 1 (by simp); have r1 := RR5.out.c 1 (by simp); have f1 := RR5.out.f 1 (by simp)
    have t2 := RT5.out.c 2 (by simp); have r2 := RR5.out.c 2 (by simp); have f2 := RR5.out.f 2 (by simp)
    have t3 := RT5.out.c 3 (by simp); have r3 := RR5.out.c 3 (by simp); have f3 := RR5.out.f 3 (by simp)
    have t4 := RT5.out.c 4 (by simp); have r4 := RR5.out.c 4 (by simp); have f4 := RR5.out.f 4 (by simp)
    have t5 := RT5.out.c 5 (by simp); have r5 := RR5.out.c 5 (by simp); have f5 := RR5.out.f 5 (by simp)
    have t6 := RT5.out.c 6 (by simp); have r6 := RR5.out.c 6 (by simp); have f6 := RR5.out.f 6 (by simp)
    have t7 := RT5.out.c 7 (by simp); have r7 := RR5.out.c 7 (by simp); have f7 := RR5.out.f 7 (by simp)
    have t8 := RT5.out.c 8 (by simp); have r8 := RR5.out.c 8 (by simp); have f8 := RR5.out.f 8 (by simp)
    simp only [List.getD_cons_zero, List.getD_cons_succ] at t0 r0 t1 r1 t2 r2 t3 r3 t4 r4 t5 r5 t6 r6 t7 r7 t8 r8
    go_wp2
    refine bodyPost_ret (v := .agg #[.int .i64 0, .int .i64 0, .int .i64 v7, .int .i64 v8, .int .i64 v2, .int .i64 v3, .int .i64 v4, .int .i64 v5, .int .i64 v6]) (by simp [results, Try.results57, go_sem, r0, r1, r2, r3, r4, r5, r6, r7, r8]) rfl ?_
    exact ⟨_, _, _, _, _, _, _, _, rfl, ⟨p + 4 + 1 + 1 + 1 + 1, by omega, (((((((((R12.out.set (by first | omega | (simp; omega) | (simp; done)) _).set (by first | omega | (simp; omega) | (simp; done)) _).set (by first | omega | (simp; omega) | (simp; done)) _).set (by first | omega | (simp; omega) | (simp; done)) _).set (by first | omega | (simp; omega) | (simp; done)) _).set (by first | omega | (simp; omega) | (simp; done)) _).set (by first | omega | (simp; omega) | (simp; done)) _).set (by first | omega | (simp; omega) | (simp; done)) _).set (by first | omega | (simp; omega) | (simp; done)) _)⟩, (only_set (only_set (only_set (only_set (only_set (only_set (only_set (only_set (only_set G12.out (by first | omega | (simp; omega) | (simp; done)) _) (by first | omega | (simp; omega) | (simp; done)) _) (by first | omega | (simp; omega) | (simp; done)) _) (by first | omega | (simp; omega) | (simp; done)) _) (by first | omega | (simp; omega) | (simp; done)) _) (by first | omega | (simp; omega) | (simp; done)) _) (by first | omega | (simp; omega) | (simp; done)) _) (by first | omega | (simp; omega) | (simp; done)) _) (by first | omega | (simp; omega) | (simp; done)) _)⟩
  · have hvb : (v1 == 0) = false := by simpa using hv
    clear hv
    have t0 := RT.out.c 0 (by simp); have r0 := RR.out.c 0 (by simp); have f0 := RR.out.f 0 (by simp)
    have t1 := RT.out.c 1 (by simp); have r1 := RR.out.c 1 (by simp); have f1 := RR.out.f 1 (by simp)
    have t2 := RT.out.c 2 (by simp); have r2 := RR.out.c 2 (by simp); have f2 := RR.out.f 2 (by simp)
    have t3 := RT.out.c 3 (by simp); have r3 := RR.out.c 3 (by simp); have f3 := RR.out.f 3 (by simp)
    have t4 := RT.out.c 4 (by simp); have r4 := RR.out.c 4 (by simp); have f4 := RR.out.f 4 (by simp)
    have t5 := RT.out.c 5 (by simp); have r5 := RR.out.c 5 (by simp); have f5 := RR.out.f 5 (by simp)
    have t6 := RT.out.c 6 (by simp); have r6 := RR.out.c 6 (by simp); have f6 := RR.out.f 6 (by simp)
    have t7 := RT.out.c 7 (by simp); have r7 := RR.out.c 7 (by simp); have f7 := RR.out.f 7 (by simp)
    have t8 := RT.out.c 8 (by simp); have r8 := RR.out.c 8 (by simp); have f8 := RR.out.f 8 (by simp)
    simp only [List.getD_cons_zero, List.getD_cons_succ] at t0 r0 t1 r1 t2 r2 t3 r3 t4 r4 t5 r5 t6 r6 t7 r7 t8 r8
    go_wp2
    refine bodyPost_ret (v := .agg #[.int .i64 0, .int .i64 v1, .int .i64 0, .int .i64 0, .int .i64 v2, .int .i64 v3, .int .i64 v4, .int .i64 v5, .int .i64 v6]) (by simp [results, Try.results57, go_sem, r0, r1, r2, r3, r4, r5, r6, r7, r8]) rfl ?_
    exact ⟨_, _, _, _, _, _, _, _, rfl, ⟨p + 4 + 1 + 1, by omega, (((((((((R7.out.set (by first | omega | (simp; omega) | (simp; done)) _).set (by first | omega | (simp; omega) | (simp; done)) _).set (by first | omega | (simp; omega) | (simp; done)) _).set (by first | omega | (simp; omega) | (simp; done)) _).set (by first | omega | (simp; omega) | (simp; done)) _).set (by first | omega | (simp; omega) | (simp; done)) _).set (by first | omega | (simp; omega) | (simp; done)) _).set (by first | omega | (simp; omega) | (simp; done)) _).set (by first | omega | (simp; omega) | (simp; done)) _)⟩, (only_set (only_set (only_set (only_set (only_set (only_set (only_set (only_set (only_set G7.out (by first | omega | (simp; omega) | (simp; done)) _) (by first | omega | (simp; omega) | (simp; done)) _) (by first | omega | (simp; omega) | (simp; done)) _) (by first | omega | (simp; omega) | (simp; done)) _) (by first | omega | (simp; omega) | (simp; done)) _) (by first | omega | (simp; omega) | (simp; done)) _) (by first | omega | (simp; omega) | (simp; done)) _) (by first | omega | (simp; omega) | (simp; done)) _) (by first | omega | (simp; omega) | (simp; done)) _)⟩
end Go.Proofs.Ytobnjagmakhgpaa

/- Drawn trees that are valid: what drawing one leaves. Condition: the code can be read. -/
namespace Go.Proofs.Ytobnjagmakhgpaa
open Go.RowKit

/-- What drawing a tree leaves. -/
def DrawnT (w : World) (a : Nat) (A : Option Addr) (m p : Nat) (e : Ending) (w' : World) : Prop :=
  ∃ (g n c : Nat) (ys : List Int), e = .returned (.slice (some ⟨g, 0, none⟩) n c) ∧ 1 ≤ n ∧ n ≤ 16 ∧ n ≤ c ∧ w.heap.size ≤ g ∧ Row w' g ys ∧ ys.length = n * 9 ∧ (∃ q, q ≤ p + 200 ∧ Rdr w' a A m q) ∧ w.grownBy w' (some a)
theorem OwnBox.sts {lo : Nat} {w : World} {A : Option Addr} {n c : Nat} {zs : List Int} (h : OwnBox lo w (.slice A n c) n zs) : Sts 9 w A n zs := by
  obtain ⟨A', c', e, _, R⟩ := h.res
  injection e with e1 e2 e3
  subst e1
  exact Sts.of_res R h.2
theorem OwnBox.one (lo : Nat) (w : World) (y0 y1 y2 y3 y4 y5 y6 y7 y8 : Int) (hl : lo ≤ w.heap.size) :
    OwnBox lo (w.alloc (.cells #[.int .i64 y0, .int .i64 y1, .int .i64 y2, .int .i64 y3, .int .i64 y4, .int .i64 y5, .int .i64 y6, .int .i64 y7, .int .i64 y8] 30)) (.slice (some ⟨w.heap.size, 0, none⟩) 1 1) 1 [y0, y1, y2, y3, y4, y5, y6, y7, y8] :=
  ⟨⟨rfl, .inr ⟨w.heap.size, 1, _, rfl, hl, heap_alloc_new w _, Nat.le_refl _, by decide, rfl, rfl⟩⟩, rfl⟩
set_option maxRecDepth 100000 in
set_option maxHeartbeats 4000000 in
theorem someTree_any (a : Nat) (A : Option Addr) (m p : Nat) (hp : p ≤ 800000) (hm : m ≤ 2000) (w : World) (h : Rdr w a A m p) :
    Calls Try.prog 69 #[.pointer (some ⟨a, 0, none⟩)] w (DrawnT w a A m p) := by
  have hlt : a < w.heap.size := World.block_lt_of_cell? w ⟨a, 1, none⟩ h.pos
  have HR := Lib.hid h
  clear h
  go_enter Try.func69, Try.ntmps69
  go_wp2_with fail
  refine (someBox_any a A m p (by omega) hm _ HR.out).mono ?_
  rintro e w1 ⟨y1, y2, y3, y4, y5, y6, y7, y8, rfl, ⟨q1, hq1, R1⟩, G1⟩
  have z1 := G1.size
  have RA := Row.oneBox w1 0 y1 y2 y3 y4 y5 y6 y7 y8 30
  have c0 := RA.c 0 (by simp); have f0 := RA.f 0 (by simp)
  simp only [List.getD_cons_zero] at c0
  have RB := Lib.hid (Row.oneBox w1 (-1) y1 y2 y3 y4 y5 y6 y7 y8 30)
  have R2 := Lib.hid (R1.new ((New.refl _).alloc (.cells #[.int .i64 (-1), .int .i64 y1, .int .i64 y2, .int .i64 y3, .int .i64 y4, .int .i64 y5, .int .i64 y6, .int .i64 y7, .int .i64 y8] 30)))
  have G2 := Lib.hid (only_alloc G1 (.cells #[.int .i64 (-1), .int .i64 y1, .int .i64 y2, .int .i64 y3, .int .i64 y4, .int .i64 y5, .int .i64 y6, .int .i64 y7, .int .i64 y8] 30))
  clear RA R1 G1
  go_upto_region 3 with fail
  generalize w1.alloc (.cells #[.int .i64 (-1), .int .i64 y1, .int .i64 y2, .int .i64 y3, .int .i64 y4, .int .i64 y5, .int .i64 y6, .int .i64 y7, .int .i64 y8] 30) = wB at *
  clear c0 f0
  have zB : w1.heap.size < wB.heap.size := RB.out.lt
  by_cases hv : y1 = 0
  · subst hv
    have k0 := RB.out.c 1 (by simp)
    simp only [List.getD_cons_zero, List.getD_cons_succ] at k0
    go_wp2_with fail
    refine (pick_any 8 a A m q1 (by omega) hm _ R2.out).mono ?_
    rintro e w2 ⟨v, rfl, v0, v1, R3, G3⟩
    have z2 := G3.size
    have RB := Lib.hid (RB.out.chg (Chg.of_grown G3 (Nat.le_refl a) (Nat.lt_succ_self a)) (by omega))
    replace G3 := Lib.hid (only_trans G2.out G3); replace R3 := Lib.hid R3
    clear k0 R2 G2
    by_cases hv : 0 < v
    · have k1 := RB.out.c 1 (by simp); have f1 := RB.out.f 1 (by simp); have k2 := RB.out.c 2 (by simp); have f2 := RB.out.f 2 (by simp); have k3 := RB.out.c 3 (by simp); have f3 := RB.out.f 3 (by simp)
      simp only [List.getD_cons_zero, List.getD_cons_succ] at k1 k2 k3
      go_wp2_with fail
      refine (pick_any 3 a A m (q1 + 1) (by omega) hm _ R3.out).mono ?_
      rintro e w3 ⟨u, rfl, u0, u1, R4, G4⟩
      replace u1 := u1 (by omega)
      have z3 := G4.size
      have RC := RB.out.chg (Chg.of_grown G4 (Nat.le_refl a) (Nat.lt_succ_self a)) (by omega)
      have k1 := RC.c 1 (by simp); have f1 := RC.f 1 (by simp); have k2 := RC.c 2 (by simp); have f2 := RC.f 2 (by simp); have k3 := RC.c 3 (by simp); have f3 := RC.f 3 (by simp)
      simp only [List.getD_cons_zero, List.getD_cons_succ] at k1 k2 k3
      have RB : Hid (Row (((w3.setCell ⟨w1.heap.size, 1, none⟩ (.int .i64 (1 + u))).setCell ⟨w1.heap.size, 2, none⟩ (.int .i64 0)).setCell ⟨w1.heap.size, 3, none⟩ (.int .i64 0)) w1.heap.size [-1, 1 + u, 0, 0, y4, y5, y6, y7, y8]) := Lib.hid (((RC.set_ (k := 1) (by simp) (1 + u)).set_ (k := 2) (by simp) 0).set_ (k := 3) (by simp) 0)
      have R5 := Lib.hid (((R4.set (q := ⟨w1.heap.size, 1, none⟩) (by simp; omega) (.int .i64 (1 + u))).set (q := ⟨w1.heap.size, 2, none⟩) (by simp; omega) (.int .i64 0)).set (q := ⟨w1.heap.size, 3, none⟩) (by simp; omega) (.int .i64 0))
      have G5 := Lib.hid (only_set (only_set (only_set (only_trans G3.out G4) (q := ⟨w1.heap.size, 1, none⟩) (by simp; omega) (.int .i64 (1 + u))) (q := ⟨w1.heap.size, 2, none⟩) (by simp; omega) (.int .i64 0)) (q := ⟨w1.heap.size, 3, none⟩) (by simp; omega) (.int .i64 0))
      have z5 : (((w3.setCell ⟨w1.heap.size, 1, none⟩ (.int .i64 (1 + u))).setCell ⟨w1.heap.size, 2, none⟩ (.int .i64 0)).setCell ⟨w1.heap.size, 3, none⟩ (.int .i64 0)).heap.size ≥ w3.heap.size := by simp [World.setCell]
      clear RC R3 G3 R4 G4
      go_upto_region 7 with fail
      generalize ((w3.setCell ⟨w1.heap.size, 1, none⟩ (.int .i64 (1 + u))).setCell ⟨w1.heap.size, 2, none⟩ (.int .i64 0)).setCell ⟨w1.heap.size, 3, none⟩ (.int .i64 0) = wC at *
      clear k1 k2 k3 f1 f2 f3
      have t0 := RB.out.c 0 (by simp)
      have t1 := RB.out.c 1 (by simp)
      have t2 := RB.out.c 2 (by simp)
      have t3 := RB.out.c 3 (by simp)
      have t4 := RB.out.c 4 (by simp)
      have t5 := RB.out.c 5 (by simp)
      have t6 := RB.out.c 6 (by simp)
      have t7 := RB.out.c 7 (by simp)
      have t8 := RB.out.c 8 (by simp)
      simp only [List.getD_cons_zero, List.getD_cons_succ] at t0 t1 t2 t3 t4 t5 t6 t7 t8
      have OB := Lib.hid (OwnBox.one w.heap.size wC (-1) (1 + u) 0 0 y4 y5 y6 y7 y8 (by omega))
      go_wp2_with fail
      refine (one_any [5, 8, 3, 12, 1, 0, 20] (by simp) (by simp) (wC.heap.size + 1) 7 a A m (q1 + 1 + 1) (by omega) hm _ (R5.out.new (by (repeat (first | exact New.refl _ | assumption | refine New.alloc ?_ _ | refine New.drew ?_ | refine New.drewN ?_ _ | refine New.setCell ?_ (by first | omega | (simp; omega) | (simp; done)) _ | refine New.trans ?_ (by assumption))))) (by omega) (by simp) (lit_at [5, 8, 3, 12, 1, 0, 20] (wC.alloc (.cells #[.int .i64 (-1), .int .i64 (1 + u), .int .i64 0, .int .i64 0, .int .i64 y4, .int .i64 y5, .int .i64 y6, .int .i64 y7, .int .i64 y8] 30)) 3 (wC.heap.size + 1) (by simp))).mono ?_
      rintro e w4 ⟨k, rfl, hk, R4, G4⟩
      have kb : 0 ≤ k ∧ k ≤ 20 := by
        simp at hk
        omega
      have z4 := G4.size; simp at z4
      have O4 := Lib.hid ((OB.out.alloc (.cells ([5, 8, 3, 12, 1, 0, 20].map (Value.int .i64)).toArray 3)).kept G4 (fun g e => by have := Option.some.inj e; omega))
      replace G4 := Lib.hid (only_trans (only_alloc (only_alloc G5.out _) _) G4); replace R4 := Lib.hid R4
      obtain ⟨j, rfl⟩ := Int.eq_ofNat_of_zero_le kb.1
      clear hk OB RB t0 t1 t2 t3 t4 t5 t6 t7 t8
      go_wp2
      go_loopw [4, 5] (fun v k wr => ∃ (i n : Nat) (zs : List Int), i ≤ 20 ∧ k = .int .i64 i ∧ Hid (OwnBox w.heap.size wr v n zs) ∧ 1 ≤ n ∧ n ≤ 16 ∧ Hid (∃ q, q + 9 * i ≤ p + 195 ∧ Rdr wr a A m q) ∧ Hid (w.grownBy wr (some a))) (fun _ k _ => (intOf k).toNat)
      case atStart => exact ⟨j, 1, _, by omega, rfl, O4, by omega, by omega, Lib.hid ⟨(q1 + 1 + 1) + 1, by omega, R4.out⟩, G4⟩
      case round =>
        clear R4 G4 O4 z4
        obtain ⟨i, n, zs, hi, rfl, HO, h1, h16, HR, HG⟩ := hrel
        obtain ⟨q, hq, RR⟩ := HR.out
        rcases HO.out.form with ⟨_, h0, _⟩ | ⟨g, c, rfl, hg, RW, hnc, _⟩
        · omega
        have zl := HO.out.2
        replace RR := Lib.hid RR
        have n0 : (1 : Int) ≤ (n : Int) := by omega
        have n16 : (n : Int) ≤ 16 := by omega
        by_cases h0 : 0 < i
        · have hi0 : (0 : Int) < (i : Int) := by omega
          have hi20 : (i : Int) ≤ 20 := by omega
          clear RW zl hg
          go_wp2_with fail
          refine (pick_any _ a A m q (by omega) hm _ RR.out).mono ?_
          rintro e w5 ⟨v5, rfl, _, _, R5, G5⟩
          have z5 := G5.size
          have O5 := Lib.hid (HO.out.kept G5 (fun g e => by have := Option.some.inj e; omega))
          replace G5 := Lib.hid (only_trans HG.out G5); replace R5 := Lib.hid R5
          go_wp2_with fail
          refine (someBox_any a A m (q + 1) (by omega) hm _ R5.out).mono ?_
          rintro e w6 ⟨u1, u2, u3, u4, u5, u6, u7, u8, rfl, ⟨q6, hq6, R6⟩, G6⟩
          have z6 := G6.size
          have O6 := Lib.hid (O5.out.kept G6 (fun g e => by have := Option.some.inj e; omega))
          replace G6 := Lib.hid (only_trans G5.out G6); replace R6 := Lib.hid R6
          have zw := G6.out.size
          go_wp2_with fail
          refine (SAddBox_any (some ⟨g, 0, none⟩) n c zs v5 0 u1 u2 u3 u4 u5 u6 u7 u8 (by omega) hnc _ O6.out.sts).mono ?_
          rintro e w7 ⟨N7, ⟨_, rfl⟩ | ⟨hok, v, rfl, O7⟩⟩
          · have O7 := Lib.hid (O6.out.new N7); have R7 := Lib.hid (R6.out.new N7); have G7 := Lib.hid (only_new G6.out N7)
            clear N7
            go_wp2
            go_roundw
            case rel => exact ⟨i - 1, n, zs, by omega, by go_num, O7, h1, h16, Lib.hid ⟨q6, by omega, R7.out⟩, G7⟩
            case measure => simp [intOf]; omega
          · have nv : n + 1 ≤ 16 := by
              unfold addOk at hok
              rw [Bool.and_eq_true] at hok
              exact (vtB_iff.1 hok.2).1.2
            have O7 := Lib.hid (O7.weak zw); have R7 := Lib.hid (R6.out.new N7); have G7 := Lib.hid (only_new G6.out N7)
            clear N7 hok
            go_wp2
            go_roundw
            case rel => exact ⟨i - 1, n + 1, _, by omega, by go_num, O7, by omega, nv, Lib.hid ⟨q6, by omega, R7.out⟩, G7⟩
            case measure => simp [intOf]; omega
        · obtain rfl : i = 0 := by omega
          have RW := Lib.hid RW
          go_wp2
          go_ret
          exact ⟨g, n, c, zs, rfl, h1, h16, hnc, hg, RW.out, zl, ⟨q, by omega, RR.out⟩, HG.out⟩
    · have v00 : decide (v > 0) = false := decide_eq_false hv
      have v000 : decide (0 < v) = false := decide_eq_false hv
      go_upto_region 7 with fail
      have t0 := RB.out.c 0 (by simp)
      have t1 := RB.out.c 1 (by simp)
      have t2 := RB.out.c 2 (by simp)
      have t3 := RB.out.c 3 (by simp)
      have t4 := RB.out.c 4 (by simp)
      have t5 := RB.out.c 5 (by simp)
      have t6 := RB.out.c 6 (by simp)
      have t7 := RB.out.c 7 (by simp)
      have t8 := RB.out.c 8 (by simp)
      simp only [List.getD_cons_zero, List.getD_cons_succ] at t0 t1 t2 t3 t4 t5 t6 t7 t8
      have OB := Lib.hid (OwnBox.one w.heap.size w2 (-1) 0 y2 y3 y4 y5 y6 y7 y8 (by omega))
      go_wp2_with fail
      refine (one_any [5, 8, 3, 12, 1, 0, 20] (by simp) (by simp) (w2.heap.size + 1) 7 a A m (q1 + 1) (by omega) hm _ (R3.out.new (by (repeat (first | exact New.refl _ | assumption | refine New.alloc ?_ _ | refine New.drew ?_ | refine New.drewN ?_ _ | refine New.setCell ?_ (by first | omega | (simp; omega) | (simp; done)) _ | refine New.trans ?_ (by assumption))))) (by omega) (by simp) (lit_at [5, 8, 3, 12, 1, 0, 20] (w2.alloc (.cells #[.int .i64 (-1), .int .i64 0, .int .i64 y2, .int .i64 y3, .int .i64 y4, .int .i64 y5, .int .i64 y6, .int .i64 y7, .int .i64 y8] 30)) 3 (w2.heap.size + 1) (by simp))).mono ?_
      rintro e w4 ⟨k, rfl, hk, R4, G4⟩
      have kb : 0 ≤ k ∧ k ≤ 20 := by
        simp at hk
        omega
      have z4 := G4.size; simp at z4
      have O4 := Lib.hid ((OB.out.alloc (.cells ([5, 8, 3, 12, 1, 0, 20].map (Value.int .i64)).toArray 3)).kept G4 (fun g e => by have := Option.some.inj e; omega))
      replace G4 := Lib.hid (only_trans (only_alloc (only_alloc G3.out _) _) G4); replace R4 := Lib.hid R4
      obtain ⟨j, rfl⟩ := Int.eq_ofNat_of_zero_le kb.1
      clear hk OB RB t0 t1 t2 t3 t4 t5 t6 t7 t8
      go_wp2
      go_loopw [4, 5] (fun v k wr => ∃ (i n : Nat) (zs : List Int), i ≤ 20 ∧ k = .int .i64 i ∧ Hid (OwnBox w.heap.size wr v n zs) ∧ 1 ≤ n ∧ n ≤ 16 ∧ Hid (∃ q, q + 9 * i ≤ p + 195 ∧ Rdr wr a A m q) ∧ Hid (w.grownBy wr (some a))) (fun _ k _ => (intOf k).toNat)
      case atStart => exact ⟨j, 1, _, by omega, rfl, O4, by omega, by omega, Lib.hid ⟨(q1 + 1) + 1, by omega, R4.out⟩, G4⟩
      case round =>
        clear R4 G4 O4 z4
        obtain ⟨i, n, zs, hi, rfl, HO, h1, h16, HR, HG⟩ := hrel
        obtain ⟨q, hq, RR⟩ := HR.out
        rcases HO.out.form with ⟨_, h0, _⟩ | ⟨g, c, rfl, hg, RW, hnc, _⟩
        · omega
        have zl := HO.out.2
        replace RR := Lib.hid RR
        have n0 : (1 : Int) ≤ (n : Int) := by omega
        have n16 : (n : Int) ≤ 16 := by omega
        by_cases h0 : 0 < i
        · have hi0 : (0 : Int) < (i : Int) := by omega
          have hi20 : (i : Int) ≤ 20 := by omega
          clear RW zl hg
          go_wp2_with fail
          refine (pick_any _ a A m q (by omega) hm _ RR.out).mono ?_
          rintro e w5 ⟨v5, rfl, _, _, R5, G5⟩
          have z5 := G5.size
          have O5 := Lib.hid (HO.out.kept G5 (fun g e => by have := Option.some.inj e; omega))
          replace G5 := Lib.hid (only_trans HG.out G5); replace R5 := Lib.hid R5
          go_wp2_with fail
          refine (someBox_any a A m (q + 1) (by omega) hm _ R5.out).mono ?_
          rintro e w6 ⟨u1, u2, u3, u4, u5, u6, u7, u8, rfl, ⟨q6, hq6, R6⟩, G6⟩
          have z6 := G6.size
          have O6 := Lib.hid (O5.out.kept G6 (fun g e => by have := Option.some.inj e; omega))
          replace G6 := Lib.hid (only_trans G5.out G6); replace R6 := Lib.hid R6
          have zw := G6.out.size
          go_wp2_with fail
          refine (SAddBox_any (some ⟨g, 0, none⟩) n c zs v5 0 u1 u2 u3 u4 u5 u6 u7 u8 (by omega) hnc _ O6.out.sts).mono ?_
          rintro e w7 ⟨N7, ⟨_, rfl⟩ | ⟨hok, v, rfl, O7⟩⟩
          · have O7 := Lib.hid (O6.out.new N7); have R7 := Lib.hid (R6.out.new N7); have G7 := Lib.hid (only_new G6.out N7)
            clear N7
            go_wp2
            go_roundw
            case rel => exact ⟨i - 1, n, zs, by omega, by go_num, O7, h1, h16, Lib.hid ⟨q6, by omega, R7.out⟩, G7⟩
            case measure => simp [intOf]; omega
          · have nv : n + 1 ≤ 16 := by
              unfold addOk at hok
              rw [Bool.and_eq_true] at hok
              exact (vtB_iff.1 hok.2).1.2
            have O7 := Lib.hid (O7.weak zw); have R7 := Lib.hid (R6.out.new N7); have G7 := Lib.hid (only_new G6.out N7)
            clear N7 hok
            go_wp2
            go_roundw
            case rel => exact ⟨i - 1, n + 1, _, by omega, by go_num, O7, by omega, nv, Lib.hid ⟨q6, by omega, R7.out⟩, G7⟩
            case measure => simp [intOf]; omega
        · obtain rfl : i = 0 := by omega
          have RW := Lib.hid RW
          go_wp2
          go_ret
          exact ⟨g, n, c, zs, rfl, h1, h16, hnc, hg, RW.out, zl, ⟨q, by omega, RR.out⟩, HG.out⟩
  · have hvb : (y1 == 0) = false := by simpa using hv
    clear hv
    have k0 := RB.out.c 1 (by simp)
    simp only [List.getD_cons_zero, List.getD_cons_succ] at k0
    go_upto_region 7 with fail
    have t0 := RB.out.c 0 (by simp)
    have t1 := RB.out.c 1 (by simp)
    have t2 := RB.out.c 2 (by simp)
    have t3 := RB.out.c 3 (by simp)
    have t4 := RB.out.c 4 (by simp)
    have t5 := RB.out.c 5 (by simp)
    have t6 := RB.out.c 6 (by simp)
    have t7 := RB.out.c 7 (by simp)
    have t8 := RB.out.c 8 (by simp)
    simp only [List.getD_cons_zero, List.getD_cons_succ] at t0 t1 t2 t3 t4 t5 t6 t7 t8
    have OB := Lib.hid (OwnBox.one w.heap.size wB (-1) y1 y2 y3 y4 y5 y6 y7 y8 (by omega))
    go_wp2_with fail
    refine (one_any [5, 8, 3, 12, 1, 0, 20] (by simp) (by simp) (wB.heap.size + 1) 7 a A m q1 (by omega) hm _ (R2.out.new (by (repeat (first | exact New.refl _ | assumption | refine New.alloc ?_ _ | refine New.drew ?_ | refine New.drewN ?_ _ | refine New.setCell ?_ (by first | omega | (simp; omega) | (simp; done)) _ | refine New.trans ?_ (by assumption))))) (by omega) (by simp) (lit_at [5, 8, 3, 12, 1, 0, 20] (wB.alloc (.cells #[.int .i64 (-1), .int .i64 y1, .int .i64 y2, .int .i64 y3, .int .i64 y4, .int .i64 y5, .int .i64 y6, .int .i64 y7, .int .i64 y8] 30)) 3 (wB.heap.size + 1) (by simp))).mono ?_
    rintro e w4 ⟨k, rfl, hk, R4, G4⟩
    have kb : 0 ≤ k ∧ k ≤ 20 := by
      simp at hk
      omega
    have z4 := G4.size; simp at z4
    have O4 := Lib.hid ((OB.out.alloc (.cells ([5, 8, 3, 12, 1, 0, 20].map (Value.int .i64)).toArray 3)).kept G4 (fun g e => by have := Option.some.inj e; omega))
    replace G4 := Lib.hid (only_trans (only_alloc (only_alloc G2.out _) _) G4); replace R4 := Lib.hid R4
    obtain ⟨j, rfl⟩ := Int.eq_ofNat_of_zero_le kb.1
    clear hk OB RB t0 t1 t2 t3 t4 t5 t6 t7 t8
    go_wp2
    go_loopw [4, 5] (fun v k wr => ∃ (i n : Nat) (zs : List Int), i ≤ 20 ∧ k = .int .i64 i ∧ Hid (OwnBox w.heap.size wr v n zs) ∧ 1 ≤ n ∧ n ≤ 16 ∧ Hid (∃ q, q + 9 * i ≤ p + 195 ∧ Rdr wr a A m q) ∧ Hid (w.grownBy wr (some a))) (fun _ k _ => (intOf k).toNat)
    case atStart => exact ⟨j, 1, _, by omega, rfl, O4, by omega, by omega, Lib.hid ⟨q1 + 1, by omega, R4.out⟩, G4⟩
    case round =>
      clear R4 G4 O4 z4
      obtain ⟨i, n, zs, hi, rfl, HO, h1, h16, HR, HG⟩ := hrel
      obtain ⟨q, hq, RR⟩ := HR.out
      rcases HO.out.form with ⟨_, h0, _⟩ | ⟨g, c, rfl, hg, RW, hnc, _⟩
      · omega
      have zl := HO.out.2
      replace RR := Lib.hid RR
      have n0 : (1 : Int) ≤ (n : Int) := by omega
      have n16 : (n : Int) ≤ 16 := by omega
      by_cases h0 : 0 < i
      · have hi0 : (0 : Int) < (i : Int) := by omega
        have hi20 : (i : Int) ≤ 20 := by omega
        clear RW zl hg
        go_wp2_with fail
        refine (pick_any _ a A m q (by omega) hm _ RR.out).mono ?_
        rintro e w5 ⟨v5, rfl, _, _, R5, G5⟩
        have z5 := G5.size
        have O5 := Lib.hid (HO.out.kept G5 (fun g e => by have := Option.some.inj e; omega))
        replace G5 := Lib.hid (only_trans HG.out G5); replace R5 := Lib.hid R5
        go_wp2_with fail
        refine (someBox_any a A m (q + 1) (by omega) hm _ R5.out).mono ?_
        rintro e w6 ⟨u1, u2, u3, u4, u5, u6, u7, u8, rfl, ⟨q6, hq6, R6⟩, G6⟩
        have z6 := G6.size
        have O6 := Lib.hid (O5.out.kept G6 (fun g e => by have := Option.some.inj e; omega))
        replace G6 := Lib.hid (only_trans G5.out G6); replace R6 := Lib.hid R6
        have zw := G6.out.size
        go_wp2_with fail
        refine (SAddBox_any (some ⟨g, 0, none⟩) n c zs v5 0 u1 u2 u3 u4 u5 u6 u7 u8 (by omega) hnc _ O6.out.sts).mono ?_
        rintro e w7 ⟨N7, ⟨_, rfl⟩ | ⟨hok, v, rfl, O7⟩⟩
        · have O7 := Lib.hid (O6.out.new N7); have R7 := Lib.hid (R6.out.new N7); have G7 := Lib.hid (only_new G6.out N7)
          clear N7
          go_wp2
          go_roundw
          case rel => exact ⟨i - 1, n, zs, by omega, by go_num, O7, h1, h16, Lib.hid ⟨q6, by omega, R7.out⟩, G7⟩
          case measure => simp [intOf]; omega
        · have nv : n + 1 ≤ 16 := by
            unfold addOk at hok
            rw [Bool.and_eq_true] at hok
            exact (vtB_iff.1 hok.2).1.2
          have O7 := Lib.hid (O7.weak zw); have R7 := Lib.hid (R6.out.new N7); have G7 := Lib.hid (only_new G6.out N7)
          clear N7 hok
          go_wp2
          go_roundw
          case rel => exact ⟨i - 1, n + 1, _, by omega, by go_num, O7, by omega, nv, Lib.hid ⟨q6, by omega, R7.out⟩, G7⟩
          case measure => simp [intOf]; omega
      · obtain rfl : i = 0 := by omega
        have RW := Lib.hid RW
        go_wp2
        go_ret
        exact ⟨g, n, c, zs, rfl, h1, h16, hnc, hg, RW.out, zl, ⟨q, by omega, RR.out⟩, HG.out⟩
end Go.Proofs.Ytobnjagmakhgpaa

/- Drawn trees that may be invalid, and drawn numbers of boxes: the arguments of the functions on trees. Condition: the code can be read. -/
namespace Go.Proofs.Ytobnjagmakhgpaa
open Go.RowKit

theorem Row.sts9 {w : World} {g n : Nat} {ys : List Int} (h : Row w g ys) (hl : ys.length = n * 9) : Sts 9 w (some ⟨g, 0, none⟩) n ys := Sts.of_res (Res.of_row h (Nat.zero_le _)) hl
theorem Row.sts9_tail {w : World} {g n : Nat} {ys : List Int} (h : Row w g ys) (hl : ys.length = (n + 1) * 9) : Sts 9 w (some ⟨g, 9, none⟩) n (ys.drop 9) :=
  ⟨by rw [List.length_drop]; omega, fun _ => ⟨g, 9, rfl, h.lt, fun i hi => by rw [h.c (9 + i) (by omega)]; simp [List.getD_eq_getElem?_getD]⟩⟩
/-- What drawing a tree that may be invalid leaves. -/
def DrawnA (w : World) (a : Nat) (A : Option Addr) (m p : Nat) (e : Ending) (w' : World) : Prop :=
  ∃ (B : Option Addr) (n c : Nat) (ys : List Int), e = .returned (.slice B n c) ∧ n ≤ 16 ∧ n ≤ c ∧ (∀ W, Chg 0 w.heap.size w' W → Sts 9 W B n ys) ∧ (∃ q, q ≤ p + 210 ∧ Rdr w' a A m q) ∧ w.grownBy w' (some a)
set_option maxHeartbeats 4000000 in
theorem anyTree_any (a : Nat) (A : Option Addr) (m p : Nat) (hp : p ≤ 700000) (hm : m ≤ 2000) (w : World) (h : Rdr w a A m p) :
    Calls Try.prog 36 #[.pointer (some ⟨a, 0, none⟩)] w (DrawnA w a A m p) := by
  have hlt : a < w.heap.size := World.block_lt_of_cell? w ⟨a, 1, none⟩ h.pos
  have HR := Lib.hid h
  clear h
  go_enter Try.func36, Try.ntmps36
  go_wp2_with fail
  refine (someTree_any a A m p (by omega) hm _ HR.out).mono ?_
  rintro e w1 ⟨g, n, c, ys, rfl, hn1, h16, hnc, hg, RW, yl, ⟨q1, hq1, R1⟩, G1⟩
  have z1 := G1.size
  replace R1 := Lib.hid R1; replace G1 := Lib.hid G1; replace RW := Lib.hid RW
  have n0 : (1 : Int) ≤ (n : Int) := by omega
  have n16 : (n : Int) ≤ 16 := by omega
  go_wp2_with fail
  refine (pick_any _ a A m q1 (by omega) hm _ R1.out).mono ?_
  rintro e w2 ⟨k, rfl, k0, k1, R2, G2⟩
  replace k1 := k1 (by omega)
  obtain ⟨k, rfl⟩ := Int.eq_ofNat_of_zero_le k0
  have z2 := G2.size
  have RW2 := Lib.hid (RW.out.chg (Chg.of_grown G2 (Nat.le_refl a) (Nat.lt_succ_self a)) (by omega))
  replace G2 := Lib.hid (only_trans G1.out G2); replace R2 := Lib.hid R2
  clear RW R1 G1
  go_wp2_with fail
  refine (pick_any 30 a A m (q1 + 1) (by omega) hm _ R2.out).mono ?_
  rintro e w3 ⟨s, rfl, s0, s1, R3, G3⟩
  have z3 := G3.size
  have RW3 := Lib.hid (RW2.out.chg (Chg.of_grown G3 (Nat.le_refl a) (Nat.lt_succ_self a)) (by omega))
  replace G3 := Lib.hid (only_trans G2.out G3); replace R3 := Lib.hid R3
  clear RW2 R2 G2 s0 s1
  by_cases h0 : s = 0
  · subst h0
    go_wp2_with fail
    refine (pick_any 5 a A m (q1 + 1 + 1) (by omega) hm _ R3.out).mono ?_
    rintro e w4 ⟨u, rfl, u0, u1, R4, G4x⟩
    replace u1 := u1 (by omega)
    have z4 := G4x.size
    have RWX := RW3.out
    have G4y := only_trans G3.out G4x
    have RW4 := Lib.hid (RWX.chg (Chg.of_grown G4x (Nat.le_refl a) (Nat.lt_succ_self a)) (by omega))
    have G4 := Lib.hid G4y; replace R4 := Lib.hid R4
    have o4 := RW4.out.c (k * 9) (by omega); have f4 := RW4.out.f (k * 9) (by omega)
    have S4 := Lib.hid (RW4.out.set_ (k := k * 9) (by omega) (u - 1))
    generalize ys.getD (k * 9) 0 = old at o4
    go_wp2
    go_ret
    exact ⟨_, n, c, ys.set (k * 9) (u - 1), rfl, h16, hnc, fun W hW => (S4.out.chg hW (by omega)).sts9 (by simp; exact yl), ⟨q1 + 1 + 1 + 1, by omega, R4.out.set (by first | omega | (simp; omega) | (simp; done)) _⟩, only_set G4.out (by first | omega | (simp; omega) | (simp; done)) _⟩
  have h0b : (s == 0) = false := by simpa using h0
  by_cases h1 : s = 1
  · subst h1
    go_wp2_with fail
    refine (one_any [0, 4, -1, 1] (by simp) (by simp) w3.heap.size 4 a A m (q1 + 1 + 1) (by omega) hm _ (R3.out.new (by (repeat (first | exact New.refl _ | assumption | refine New.alloc ?_ _ | refine New.drew ?_ | refine New.drewN ?_ _ | refine New.setCell ?_ (by first | omega | (simp; omega) | (simp; done)) _ | refine New.trans ?_ (by assumption))))) (by omega) (by simp) (lit_at [0, 4, -1, 1] _ _ _ rfl)).mono ?_
    rintro e w4 ⟨u, rfl, _, R4, G4x⟩
    have z4 := G4x.size; simp at z4
    have RWX := RW3.out.new ((New.refl _).alloc (.cells ([0, 4, -1, 1].map (Value.int .i64)).toArray 3))
    have G4y := only_trans (only_alloc G3.out _) G4x
    have RW4 := Lib.hid (RWX.chg (Chg.of_grown G4x (Nat.le_refl a) (Nat.lt_succ_self a)) (by omega))
    have G4 := Lib.hid G4y; replace R4 := Lib.hid R4
    have o4 := RW4.out.c (k * 9 + 1) (by omega); have f4 := RW4.out.f (k * 9 + 1) (by omega)
    have S4 := Lib.hid (RW4.out.set_ (k := k * 9 + 1) (by omega) (u))
    generalize ys.getD (k * 9 + 1) 0 = old at o4
    go_wp2
    go_ret
    exact ⟨_, n, c, ys.set (k * 9 + 1) (u), rfl, h16, hnc, fun W hW => (S4.out.chg hW (by omega)).sts9 (by simp; exact yl), ⟨q1 + 1 + 1 + 1, by omega, R4.out.set (by first | omega | (simp; omega) | (simp; done)) _⟩, only_set G4.out (by first | omega | (simp; omega) | (simp; done)) _⟩
  have h1b : (s == 1) = false := by simpa using h1
  by_cases h2 : s = 2
  · subst h2
    go_wp2_with fail
    refine (one_any [1, 101, -1] (by simp) (by simp) w3.heap.size 3 a A m (q1 + 1 + 1) (by omega) hm _ (R3.out.new (by (repeat (first | exact New.refl _ | assumption | refine New.alloc ?_ _ | refine New.drew ?_ | refine New.drewN ?_ _ | refine New.setCell ?_ (by first | omega | (simp; omega) | (simp; done)) _ | refine New.trans ?_ (by assumption))))) (by omega) (by simp) (lit_at [1, 101, -1] _ _ _ rfl)).mono ?_
    rintro e w4 ⟨u, rfl, _, R4, G4x⟩
    have z4 := G4x.size; simp at z4
    have RWX := RW3.out.new ((New.refl _).alloc (.cells ([1, 101, -1].map (Value.int .i64)).toArray 3))
    have G4y := only_trans (only_alloc G3.out _) G4x
    have RW4 := Lib.hid (RWX.chg (Chg.of_grown G4x (Nat.le_refl a) (Nat.lt_succ_self a)) (by omega))
    have G4 := Lib.hid G4y; replace R4 := Lib.hid R4
    have o4 := RW4.out.c (k * 9 + 2) (by omega); have f4 := RW4.out.f (k * 9 + 2) (by omega)
    have S4 := Lib.hid (RW4.out.set_ (k := k * 9 + 2) (by omega) (u))
    generalize ys.getD (k * 9 + 2) 0 = old at o4
    go_wp2
    go_ret
    exact ⟨_, n, c, ys.set (k * 9 + 2) (u), rfl, h16, hnc, fun W hW => (S4.out.chg hW (by omega)).sts9 (by simp; exact yl), ⟨q1 + 1 + 1 + 1, by omega, R4.out.set (by first | omega | (simp; omega) | (simp; done)) _⟩, only_set G4.out (by first | omega | (simp; omega) | (simp; done)) _⟩
  have h2b : (s == 2) = false := by simpa using h2
  by_cases h3 : s = 3
  · subst h3
    go_wp2_with fail
    refine (one_any [51, -1] (by simp) (by simp) w3.heap.size 2 a A m (q1 + 1 + 1) (by omega) hm _ (R3.out.new (by (repeat (first | exact New.refl _ | assumption | refine New.alloc ?_ _ | refine New.drew ?_ | refine New.drewN ?_ _ | refine New.setCell ?_ (by first | omega | (simp; omega) | (simp; done)) _ | refine New.trans ?_ (by assumption))))) (by omega) (by simp) (lit_at [51, -1] _ _ _ rfl)).mono ?_
    rintro e w4 ⟨u, rfl, _, R4, G4x⟩
    have z4 := G4x.size; simp at z4
    have RWX := RW3.out.new ((New.refl _).alloc (.cells ([51, -1].map (Value.int .i64)).toArray 3))
    have G4y := only_trans (only_alloc G3.out _) G4x
    have RW4 := Lib.hid (RWX.chg (Chg.of_grown G4x (Nat.le_refl a) (Nat.lt_succ_self a)) (by omega))
    have G4 := Lib.hid G4y; replace R4 := Lib.hid R4
    have o4 := RW4.out.c (k * 9 + 4) (by omega); have f4 := RW4.out.f (k * 9 + 4) (by omega)
    have S4 := Lib.hid (RW4.out.set_ (k := k * 9 + 4) (by omega) (u))
    generalize ys.getD (k * 9 + 4) 0 = old at o4
    go_wp2
    go_ret
    exact ⟨_, n, c, ys.set (k * 9 + 4) (u), rfl, h16, hnc, fun W hW => (S4.out.chg hW (by omega)).sts9 (by simp; exact yl), ⟨q1 + 1 + 1 + 1, by omega, R4.out.set (by first | omega | (simp; omega) | (simp; done)) _⟩, only_set G4.out (by first | omega | (simp; omega) | (simp; done)) _⟩
  have h3b : (s == 3) = false := by simpa using h3
  by_cases h4 : s = 4
  · subst h4
    obtain ⟨n', hn'⟩ : ∃ n', n = n' + 1 := ⟨n - 1, by omega⟩
    obtain ⟨c', hc'⟩ : ∃ c', c = c' + 1 := ⟨c - 1, by omega⟩
    have e1 : (n : Int) - 1 = (n' : Int) := by omega
    have e2 : (c : Int) - 1 = (c' : Int) := by omega
    have c0 : (1 : Int) ≤ (c : Int) := by omega
    have ST := Lib.hid (fun (W : World) (hW : Chg 0 w.heap.size w3 W) => (RW3.out.chg hW (by omega)).sts9_tail (n := n') (by rw [yl, hn']))
    have n16' : n' ≤ 16 := by omega
    have nc' : n' ≤ c' := by omega
    have nn : n - 1 = n' := by omega
    have cc : c - 1 = c' := by omega
    clear hc' h0 h1 h2 h3
    by_cases hc1 : c = 1
    · obtain rfl : n' = 0 := by omega
      obtain rfl : n = 1 := by omega
      subst hc1
      clear hn' e1 e2 nn cc ST nc'
      go_wp2
      go_ret
      exact ⟨_, 0, 0, [], rfl, by omega, by omega, fun W _ => ⟨rfl, fun h => absurd h (by omega)⟩, ⟨_, by omega, R3.out⟩, G3.out⟩
    · clear hn'
      go_wp2
      go_ret
      exact ⟨_, n', c', ys.drop 9, rfl, n16', nc', ST.out, ⟨_, by omega, R3.out⟩, G3.out⟩
  have h4b : (s == 4) = false := by simpa using h4
  clear h0 h1 h2 h3 h4
  go_wp2
  go_ret
  exact ⟨_, n, c, ys, rfl, h16, hnc, fun W hW => (RW3.out.chg hW (by omega)).sts9 yl, ⟨_, by omega, R3.out⟩, G3.out⟩
set_option maxHeartbeats 2000000 in
theorem someAt_any (a : Nat) (A : Option Addr) (m p : Nat) (hp : p ≤ 900000) (hm : m ≤ 2000) (B : Option Addr) (n c : Nat) (hn : n ≤ 16) (w : World) (h : Rdr w a A m p) :
    Calls Try.prog 56 #[.pointer (some ⟨a, 0, none⟩), .slice B n c] w fun e w' => ∃ x : Int, e = .returned (.int .i64 x) ∧ (-1 ≤ x ∧ x ≤ 16) ∧ (∃ q, q ≤ p + 2 ∧ Rdr w' a A m q) ∧ w.grownBy w' (some a) := by
  have hlt : a < w.heap.size := World.block_lt_of_cell? w ⟨a, 1, none⟩ h.pos
  have HR := Lib.hid h
  have n0 : (0 : Int) ≤ (n : Int) := by omega
  have n16 : (n : Int) ≤ 16 := by omega
  clear h
  go_enter Try.func56, Try.ntmps56
  go_wp2_with fail
  refine (pick_any 10 a A m p (by omega) hm _ HR.out).mono ?_
  rintro e w1 ⟨v, rfl, _, _, R1, G1⟩
  have z1 := G1.size
  replace R1 := Lib.hid R1; replace G1 := Lib.hid G1
  by_cases hv : v = 0
  · subst hv
    go_wp2_with fail
    refine (one_any [-1, (n : Int), 0] (by simp) (by simp) w1.heap.size 3 a A m (p + 1) (by omega) hm _ (R1.out.new (by (repeat (first | exact New.refl _ | assumption | refine New.alloc ?_ _ | refine New.drew ?_ | refine New.drewN ?_ _ | refine New.setCell ?_ (by first | omega | (simp; omega) | (simp; done)) _ | refine New.trans ?_ (by assumption))))) (by omega) (by simp) (lit_at [-1, (n : Int), 0] _ _ _ rfl)).mono ?_
    rintro e w2 ⟨x, rfl, hx, R2, G2⟩
    have xb : -1 ≤ x ∧ x ≤ 16 := by simp at hx; omega
    replace R2 := Lib.hid R2; replace G2 := Lib.hid (only_trans (only_alloc G1.out _) G2)
    clear hx
    go_wp2
    go_ret
    exact ⟨x, rfl, xb, ⟨p + 1 + 1, by omega, R2.out⟩, G2.out⟩
  · have hvb : (v == 0) = false := by simpa using hv
    clear hv
    obtain ⟨y, hy⟩ : ∃ y, mx 1 (n : Int) = y := ⟨_, rfl⟩
    have hmx := fun (W : World) (ts : Array TypeId) (t : TypeId) => (run_mx Try.prog W ts t 1 (n : Int)).trans (by rw [hy])
    have yb : 1 ≤ y ∧ y ≤ 16 := by unfold mx at hy; omega
    clear hy
    go_wp2_with fail
    refine (pick_any y a A m (p + 1) (by omega) hm _ R1.out).mono ?_
    rintro e w2 ⟨x, rfl, x0, x1, R2, G2⟩
    replace x1 := x1 (by omega)
    replace R2 := Lib.hid R2; replace G2 := Lib.hid (only_trans G1.out G2)
    clear hmx
    go_wp2
    go_ret
    exact ⟨x, rfl, by omega, ⟨p + 1 + 1, by omega, R2.out⟩, G2.out⟩
/-- What drawing a tree leaves; a tree and a number; a tree and two numbers. -/
def DrawnT1 (w : World) (e : Ending) (w' : World) : Prop := ∃ (B : Option Addr) (n c : Nat) (ys : List Int), e = .returned (.slice B n c) ∧ Sts 9 w' B n ys ∧ n ≤ 16 ∧ n ≤ c ∧ New w w'
def DrawnT2 (w : World) (e : Ending) (w' : World) : Prop := ∃ (B : Option Addr) (n c : Nat) (ys : List Int) (x : Int), e = .returned (.tuple #[.slice B n c, .int .i64 x]) ∧ Sts 9 w' B n ys ∧ n ≤ 16 ∧ n ≤ c ∧ (-1 ≤ x ∧ x ≤ 16) ∧ New w w'
def DrawnT3 (w : World) (e : Ending) (w' : World) : Prop := ∃ (B : Option Addr) (n c : Nat) (ys : List Int) (x y : Int), e = .returned (.tuple #[.slice B n c, .int .i64 x, .int .i64 y]) ∧ Sts 9 w' B n ys ∧ n ≤ 16 ∧ n ≤ c ∧ (-1 ≤ x ∧ x ≤ 16) ∧ (-1 ≤ y ∧ y ≤ 16) ∧ New w w'
set_option maxHeartbeats 2000000 in
theorem DrawKidsOf_any (A : Option Addr) (n c : Nat) (hn : n ≤ maxLen) (hnc : n ≤ c) (w : World) (hb : Bytes w A n) :
    Calls Try.prog 51 #[.slice A n c] w (DrawnT2 w) := by
  have HB := Lib.hid hb
  clear hb
  go_enter Try.func51, Try.ntmps51
  go_wp2_with fail
  refine (newReader_any A n c hn hnc _ HB.out).mono ?_
  rintro e w1 ⟨rfl, ⟨m, hm, R1⟩, N1, z1⟩
  replace R1 := Lib.hid R1; replace N1 := Lib.hid N1
  go_wp2_with fail
  refine (anyTree_any w.heap.size A m 0 (by omega) hm _ R1.out).mono ?_
  rintro e w2 ⟨B, k, d, ys, rfl, k16, kd, S2, ⟨q2, lq2, R2⟩, G2⟩
  replace S2 := Lib.hid S2; replace R2 := Lib.hid R2; replace G2 := Lib.hid G2
  go_wp2_with fail
  refine (someAt_any w.heap.size A m q2 (by omega) hm B k d k16 _ R2.out).mono ?_
  rintro e w3 ⟨x, rfl, xb, ⟨q3, lq3, R3⟩, G3⟩
  have G3x := G3
  replace R3 := Lib.hid R3; replace G3 := Lib.hid (only_trans G2.out G3)
  have S9 := Lib.hid (S2.out _ (Chg.of_grown G3x (Nat.zero_le _) z1))
  have N9 := Lib.hid (new_only N1.out (Nat.le_refl _) G3.out)
  clear S2 R2 G2 R3 G3
  go_wp2
  refine bodyPost_ret (v := .tuple #[.slice B k d, .int .i64 x]) (by simp [results, Try.results51, go_sem]) rfl ?_
  exact ⟨B, k, d, ys, x, rfl, S9.out, k16, kd, xb, N9.out⟩
set_option maxHeartbeats 2000000 in
theorem DrawPartOf_any (A : Option Addr) (n c : Nat) (hn : n ≤ maxLen) (hnc : n ≤ c) (w : World) (hb : Bytes w A n) :
    Calls Try.prog 17 #[.slice A n c] w (DrawnT2 w) := by
  have HB := Lib.hid hb
  clear hb
  go_enter Try.func17, Try.ntmps17
  go_wp2_with fail
  refine (DrawKidsOf_any A n c hn hnc _ HB.out).mono ?_
  rintro e w1 ⟨B, k, d, ys, x, rfl, H⟩
  replace H := Lib.hid H
  go_wp2
  refine bodyPost_ret (v := .tuple #[.slice B k d, .int .i64 x]) (by simp [results, Try.results17, go_sem]) rfl ?_
  exact ⟨B, k, d, ys, x, rfl, H.out⟩
set_option maxHeartbeats 2000000 in
theorem DrawNaturalSize_any (A : Option Addr) (n c : Nat) (hn : n ≤ maxLen) (hnc : n ≤ c) (w : World) (hb : Bytes w A n) :
    Calls Try.prog 24 #[.slice A n c] w (DrawnT2 w) := by
  have HB := Lib.hid hb
  clear hb
  go_enter Try.func24, Try.ntmps24
  go_wp2_with fail
  refine (DrawKidsOf_any A n c hn hnc _ HB.out).mono ?_
  rintro e w1 ⟨B, k, d, ys, x, rfl, H⟩
  replace H := Lib.hid H
  go_wp2
  refine bodyPost_ret (v := .tuple #[.slice B k d, .int .i64 x]) (by simp [results, Try.results24, go_sem]) rfl ?_
  exact ⟨B, k, d, ys, x, rfl, H.out⟩
end Go.Proofs.Ytobnjagmakhgpaa

/- A drawn side. Condition: the code can be read. -/
namespace Go.Proofs.Ytobnjagmakhgpaa
open Go.RowKit

set_option maxHeartbeats 1000000 in
theorem someSide_any (a : Nat) (A : Option Addr) (m p : Nat) (hp : p ≤ 900000) (hm : m ≤ 2000) (w : World) (h : Rdr w a A m p) :
    Calls Try.prog 37 #[.pointer (some ⟨a, 0, none⟩)] w fun e w' => ∃ z : Int, e = .returned (.int .i64 z) ∧ (-1 ≤ z ∧ z ≤ 10001) ∧ Rdr w' a A m (p + 1) ∧ w.grownBy w' (some a) := by
  have hlt : a < w.heap.size := World.block_lt_of_cell? w ⟨a, 1, none⟩ h.pos
  have HR := Lib.hid h
  clear h
  go_enter Try.func37, Try.ntmps37
  go_wp2_with fail
  refine (one_any [100, 200, 300, 50, 0, 500, 10000, 10001, -1, 150, 320] (by simp) (by simp) w.heap.size 11 a A m p (by omega) hm _ (HR.out.new (by (repeat (first | exact New.refl _ | assumption | refine New.alloc ?_ _ | refine New.drew ?_ | refine New.drewN ?_ _ | refine New.setCell ?_ (by first | omega | (simp; omega) | (simp; done)) _ | refine New.trans ?_ (by assumption))))) (by omega) (by simp) (lit_at [100, 200, 300, 50, 0, 500, 10000, 10001, -1, 150, 320] _ _ _ rfl)).mono ?_
  rintro e w3 ⟨x, rfl, hx, R3, G3⟩
  have xb : -1 ≤ x ∧ x ≤ 10001 := by simp at hx; omega
  replace R3 := Lib.hid R3; replace G3 := Lib.hid (only_trans (only_alloc only_refl _) G3)
  clear hx
  go_wp2
  go_ret
  exact ⟨x, rfl, xb, R3.out, G3.out⟩
end Go.Proofs.Ytobnjagmakhgpaa

/- The drawn arguments of LayoutTree, Spilling and RectOf. Condition: the code can be read. -/
namespace Go.Proofs.Ytobnjagmakhgpaa
open Go.RowKit

def DrawnS2 (w : World) (e : Ending) (w' : World) : Prop := ∃ (B : Option Addr) (n c : Nat) (ys : List Int) (x y : Int), e = .returned (.tuple #[.slice B n c, .int .i64 x, .int .i64 y]) ∧ Sts 9 w' B n ys ∧ n ≤ 16 ∧ n ≤ c ∧ (-1 ≤ x ∧ x ≤ 10001) ∧ (-1 ≤ y ∧ y ≤ 10001) ∧ New w w'
def DrawnS3 (w : World) (e : Ending) (w' : World) : Prop := ∃ (B : Option Addr) (n c : Nat) (ys : List Int) (x y z : Int), e = .returned (.tuple #[.slice B n c, .int .i64 x, .int .i64 y, .int .i64 z]) ∧ Sts 9 w' B n ys ∧ n ≤ 16 ∧ n ≤ c ∧ (-1 ≤ x ∧ x ≤ 10001) ∧ (-1 ≤ y ∧ y ≤ 10001) ∧ (-1 ≤ z ∧ z ≤ 16) ∧ New w w'
set_option maxHeartbeats 2000000 in
theorem DrawLayoutTree_any (A : Option Addr) (n c : Nat) (hn : n ≤ maxLen) (hnc : n ≤ c) (w : World) (hb : Bytes w A n) :
    Calls Try.prog 9 #[.slice A n c] w (DrawnS2 w) := by
  have HB := Lib.hid hb
  clear hb
  go_enter Try.func9, Try.ntmps9
  go_wp2_with fail
  refine (newReader_any A n c hn hnc _ HB.out).mono ?_
  rintro e w1 ⟨rfl, ⟨m, hm, R1⟩, N1, z1⟩
  replace R1 := Lib.hid R1; replace N1 := Lib.hid N1
  go_wp2_with fail
  refine (anyTree_any w.heap.size A m 0 (by omega) hm _ R1.out).mono ?_
  rintro e w2 ⟨B, k, d, ys, rfl, k16, kd, S2, ⟨q2, lq2, R2⟩, G2⟩
  replace S2 := Lib.hid S2; replace R2 := Lib.hid R2; replace G2 := Lib.hid G2
  go_wp2_with fail
  refine (someSide_any w.heap.size A m (q2) (by omega) hm _ R2.out).mono ?_
  rintro e w3 ⟨x, rfl, xb, R3, G3⟩
  have G3x := Lib.hid (only_trans only_refl G3)
  replace R3 := Lib.hid R3; replace G3 := Lib.hid (only_trans G2.out G3)
  go_wp2_with fail
  refine (someSide_any w.heap.size A m (q2 + 1) (by omega) hm _ R3.out).mono ?_
  rintro e w4 ⟨y, rfl, yb, R4, G4⟩
  have G4x := Lib.hid (only_trans G3x.out G4)
  replace R4 := Lib.hid R4; replace G4 := Lib.hid (only_trans G3.out G4)
  have S9 := Lib.hid (S2.out _ (Chg.of_grown G4x.out (Nat.zero_le _) z1))
  have N9 := Lib.hid (new_only N1.out (Nat.le_refl _) G4.out)
  clear S2 R2 G2 R3 G3 R4 G4 G3x G4x
  go_wp2
  refine bodyPost_ret (v := .tuple #[.slice B k d, .int .i64 x, .int .i64 y]) (by simp [results, Try.results9, go_sem]) rfl ?_
  exact ⟨B, k, d, ys, x, y, rfl, S9.out, k16, kd, xb, yb, N9.out⟩
end Go.Proofs.Ytobnjagmakhgpaa
