/- Two rows of numbers and a number (Buffers): what it means that they can be read, and the helpers of the exact laws on them. Conditions: the slices can be read, or lie in blocks of the call's own. -/
import Derived.Test.YtopnegbaieflpaaRes
namespace Go.Proofs.Ytopnegbaieflpaa
open Go.RowKit

/-- Block g holds three values, and may be written. -/
structure B3 (w : World) (g : Nat) (u0 u1 u2 : Value) : Prop where
  lt : g < w.heap.size
  c0 : w.cell? ⟨g, 0, none⟩ = some u0
  c1 : w.cell? ⟨g, 1, none⟩ = some u1
  c2 : w.cell? ⟨g, 2, none⟩ = some u2
  f0 : w.frozen? ⟨g, 0, none⟩ = false
  f1 : w.frozen? ⟨g, 1, none⟩ = false
  f2 : w.frozen? ⟨g, 2, none⟩ = false
section
variable {w w' w1 w2 : World} {g n c m d lo hi lo' hi' : Nat} {A B : Option Addr} {v : Int} {xs ys : List Int}
theorem Chg.set (w : World) (g o : Nat) (u : Value) : Chg g (g + 1) w (w.setCell ⟨g, o, none⟩ u) :=
  Chg.of_grown (own_set (World.grownBy.refl w (some g)) u) (Nat.le_refl g) (Nat.lt_succ_self g)
theorem B3.chg {u0 u1 u2 : Value} (h : B3 w g u0 u1 u2) (k : Chg lo hi w w') (hn : ¬ (lo ≤ g ∧ g < hi)) : B3 w' g u0 u1 u2 :=
  have hb := k.block g h.lt hn
  ⟨Nat.lt_of_lt_of_le h.lt k.size, (World.cell?_of_block hb).trans h.c0, (World.cell?_of_block hb).trans h.c1, (World.cell?_of_block hb).trans h.c2, (World.frozen?_of_block (w := w) hb).trans h.f0, (World.frozen?_of_block (w := w) hb).trans h.f1, (World.frozen?_of_block (w := w) hb).trans h.f2⟩
theorem B3.far {u0 u1 u2 : Value} {h o : Nat} (b : B3 w g u0 u1 u2) (hn : h ≠ g) (u : Value) : B3 (w.setCell ⟨h, o, none⟩ u) g u0 u1 u2 := b.chg (Chg.set w h o u) (by omega)
theorem B3.new {u0 u1 u2 : Value} (h : B3 w g u0 u1 u2) (hN : New w w') : B3 w' g u0 u1 u2 :=
  ⟨Nat.lt_of_lt_of_le h.lt hN.le, (hN.cells g _ h.lt).trans h.c0, (hN.cells g _ h.lt).trans h.c1, (hN.cells g _ h.lt).trans h.c2, (hN.marks g _ h.lt).trans h.f0, (hN.marks g _ h.lt).trans h.f1, (hN.marks g _ h.lt).trans h.f2⟩
theorem B3.laid (w : World) (u0 u1 u2 : Value) (t : TypeId) : B3 (w.alloc (.cells #[u0, u1, u2] t)) w.heap.size u0 u1 u2 :=
  ⟨by simp, by simp [go_sem], by simp [go_sem], by simp [go_sem], by simp [go_sem], by simp [go_sem], by simp [go_sem]⟩
theorem B3.laid_at {k : Nat} (w : World) (u0 u1 u2 : Value) (t : TypeId) (hk : w.heap.size = k) : B3 (w.alloc (.cells #[u0, u1, u2] t)) k u0 u1 u2 := hk ▸ B3.laid w u0 u1 u2 t
theorem B3.set0 {u0 u1 u2 : Value} (h : B3 w g u0 u1 u2) (u : Value) : B3 (w.setCell ⟨g, 0, none⟩ u) g u u1 u2 := by
  obtain ⟨h1, a0, a1, a2, b0, b1, b2⟩ := h
  exact ⟨by simpa [World.setCell] using h1, by simp [go_sem, a0], by rw [World.cell?_setCell_other _ _ _ _ (by simp)]; exact a1, by rw [World.cell?_setCell_other _ _ _ _ (by simp)]; exact a2, by simpa [go_sem] using b0, by simpa [go_sem] using b1, by simpa [go_sem] using b2⟩
theorem B3.set1 {u0 u1 u2 : Value} (h : B3 w g u0 u1 u2) (u : Value) : B3 (w.setCell ⟨g, 1, none⟩ u) g u0 u u2 := by
  obtain ⟨h1, a0, a1, a2, b0, b1, b2⟩ := h
  exact ⟨by simpa [World.setCell] using h1, by rw [World.cell?_setCell_other _ _ _ _ (by simp)]; exact a0, by simp [go_sem, a1], by rw [World.cell?_setCell_other _ _ _ _ (by simp)]; exact a2, by simpa [go_sem] using b0, by simpa [go_sem] using b1, by simpa [go_sem] using b2⟩
theorem B3.set2 {u0 u1 u2 : Value} (h : B3 w g u0 u1 u2) (u : Value) : B3 (w.setCell ⟨g, 2, none⟩ u) g u0 u1 u := by
  obtain ⟨h1, a0, a1, a2, b0, b1, b2⟩ := h
  exact ⟨by simpa [World.setCell] using h1, by rw [World.cell?_setCell_other _ _ _ _ (by simp)]; exact a0, by rw [World.cell?_setCell_other _ _ _ _ (by simp)]; exact a1, by simp [go_sem, a2], by simpa [go_sem] using b0, by simpa [go_sem] using b1, by simpa [go_sem] using b2⟩
theorem New.chgs {w0 : World} (h : New w0 w) (k : Chg lo hi w w') (hl : w0.heap.size ≤ lo) : New w0 w' := k.new h hl
theorem Chg.mono (h : Chg lo hi w w') (h1 : lo' ≤ lo) (h2 : hi ≤ hi') : Chg lo' hi' w w' :=
  ⟨h.os, h.tape, h.output, h.size, fun k hk hn => h.block k hk (fun hh => hn ⟨by omega, by omega⟩)⟩
theorem Res.mono (h : Res lo hi w A xs) (h1 : lo' ≤ lo) (h2 : hi ≤ hi') (h3 : hi' ≤ w.heap.size) : Res lo' hi' w A xs :=
  ⟨h3, fun hz => by obtain ⟨g, e, k1, k2, hR⟩ := h.2 hz; exact ⟨g, e, by omega, by omega, hR⟩⟩
/-- Two rows in blocks of their own, between two marks. -/
def Res2 (lo hi : Nat) (w : World) (A : Option Addr) (xs : List Int) (B : Option Addr) (ys : List Int) : Prop :=
  ∃ l1 h1 l2 h2, lo ≤ l1 ∧ h1 ≤ hi ∧ lo ≤ l2 ∧ h2 ≤ hi ∧ (h1 ≤ l2 ∨ h2 ≤ l1) ∧ hi ≤ w.heap.size ∧ Res l1 h1 w A xs ∧ Res l2 h2 w B ys
theorem Res2.new (h : Res2 lo hi w A xs B ys) (k : New w w1) : Res2 lo hi w1 A xs B ys := by
  obtain ⟨l1, h1, l2, h2, a1, a2, a3, a4, a5, a6, r1, r2⟩ := h
  exact ⟨l1, h1, l2, h2, a1, a2, a3, a4, a5, Nat.le_trans a6 k.le, r1.new k, r2.new k⟩
theorem Res2.chg (h : Res2 lo hi w A xs B ys) (k : Chg lo' hi' w w1) (hd : hi ≤ lo' ∨ hi' ≤ lo) : Res2 lo hi w1 A xs B ys := by
  obtain ⟨l1, h1, l2, h2, a1, a2, a3, a4, a5, a6, r1, r2⟩ := h
  exact ⟨l1, h1, l2, h2, a1, a2, a3, a4, a5, Nat.le_trans a6 k.size, r1.chg k (by omega), r2.chg k (by omega)⟩
theorem Res2.le (h : Res2 lo hi w A xs B ys) : hi ≤ w.heap.size := by obtain ⟨_, _, _, _, _, _, _, _, _, a6, _⟩ := h; exact a6
theorem Res2.intsA (h : Res2 lo hi w A xs B ys) (hn : xs.length = n) : Ints w A n xs := by obtain ⟨_, _, _, _, _, _, _, _, _, _, r1, r2⟩ := h; exact r1.ints hn
theorem Res2.intsB (h : Res2 lo hi w A xs B ys) (hn : ys.length = m) : Ints w B m ys := by obtain ⟨_, _, _, _, _, _, _, _, _, _, r1, r2⟩ := h; exact r2.ints hn
theorem Res2.mono (h : Res2 lo hi w A xs B ys) (k1 : lo' ≤ lo) (k2 : hi ≤ hi') (k3 : hi' ≤ w.heap.size) : Res2 lo' hi' w A xs B ys := by
  obtain ⟨l1, h1, l2, h2, a1, a2, a3, a4, a5, a6, r1, r2⟩ := h
  exact ⟨l1, h1, l2, h2, by omega, by omega, by omega, by omega, a5, k3, r1, r2⟩
theorem Res2.mk {l1 h1 l2 h2 : Nat} (a1 : lo ≤ l1) (a2 : h1 ≤ hi) (a3 : lo ≤ l2) (a4 : h2 ≤ hi) (a5 : h1 ≤ l2 ∨ h2 ≤ l1) (a6 : hi ≤ w.heap.size) (r1 : Res l1 h1 w A xs) (r2 : Res l2 h2 w B ys) : Res2 lo hi w A xs B ys :=
  ⟨l1, h1, l2, h2, a1, a2, a3, a4, a5, a6, r1, r2⟩
end
/-- An answer that is buffers of its own. -/
def AnsB (w : World) (v : Int) (xs ys : List Int) (e : Ending) (w' : World) : Prop :=
  ∃ (A : Option Addr) (n c : Nat) (B : Option Addr) (m d : Nat), e = .returned (.agg #[.slice A n c, .slice B m d, .int .i64 v]) ∧ xs.length = n ∧ ys.length = m ∧ Res2 w.heap.size w'.heap.size w' A xs B ys ∧ New w w'
/-- An answer that is buffers of its own, and a truth value. -/
def AnsBT (w : World) (ok : Bool) (v : Int) (xs ys : List Int) (e : Ending) (w' : World) : Prop :=
  ∃ (A : Option Addr) (n c : Nat) (B : Option Addr) (m d : Nat), e = .returned (.tuple #[.agg #[.slice A n c, .slice B m d, .int .i64 v], .bool ok]) ∧ xs.length = n ∧ ys.length = m ∧ Res2 w.heap.size w'.heap.size w' A xs B ys ∧ New w w'
theorem AnsBT.no {w w' : World} {e : Ending} (he : e = .returned (.tuple #[.agg #[.slice none 0 0, .slice none 0 0, .int .i64 0], .bool false])) (hN : New w w') : AnsBT w false 0 [] [] e w' :=
  ⟨none, 0, 0, none, 0, 0, he, rfl, rfl, Res2.mk (Nat.le_refl _) (hN.le) (Nat.le_refl _) (Nat.le_refl _) (.inl (Nat.le_refl _)) (Nat.le_refl _) ⟨hN.le, fun h => absurd h (by simp)⟩ ⟨Nat.le_refl _, fun h => absurd h (by simp)⟩, hN⟩

set_option maxHeartbeats 400000 in
theorem szIntS_ok (A : Option Addr) (n c : Nat) (l : Nat) (hl : l ≤ 1048576) (h : n ≤ l) (w : World) :
    Calls Try.prog 41 #[.slice A n c, .int .i64 l] w fun e w' => e = .returned (.int .i64 ((l : Int) - (n : Int))) ∧ w = w' := by
  have h1 : (n : Int) ≤ (l : Int) := by omega
  have h2 : (0 : Int) ≤ (n : Int) := by omega
  have h3 : (l : Int) ≤ 1048576 := by omega
  go_enter Try.func41, Try.ntmps41
  go_wp2
  go_ret
  exact ⟨rfl, rfl⟩
set_option maxHeartbeats 400000 in
theorem szIntS_no (A : Option Addr) (n c : Nat) (l : Nat) (hn : n ≤ maxLen) (h : l < n) (w : World) :
    Calls Try.prog 41 #[.slice A n c, .int .i64 l] w fun e w' => e = .returned (.int .i64 (-1)) ∧ w = w' := by
  have h1 : (l : Int) < (n : Int) := by omega
  have h2 : (0 : Int) ≤ (l : Int) := by omega
  unfold maxLen at hn
  have h3 : (n : Int) ≤ 9223372036854775807 := by omega
  go_enter Try.func41, Try.ntmps41
  go_wp2
  go_ret
  exact ⟨rfl, rfl⟩
set_option maxHeartbeats 400000 in
theorem szBuffers_ok (A : Option Addr) (n c : Nat) (B : Option Addr) (m d : Nat) (v : Int) (h : n + m ≤ 1048576) (w : World) :
    Calls Try.prog 15 #[.agg #[.slice A n c, .slice B m d, .int .i64 v], .int .i64 1048576] w fun e w' => e = .returned (.int .i64 (1048576 - (n : Int) - (m : Int))) ∧ New w w' := by
  have h1 : (n : Int) + (m : Int) ≤ 1048576 := by omega
  have h2 : (0 : Int) ≤ (n : Int) := by omega
  have h3 : (0 : Int) ≤ (m : Int) := by omega
  have e1 : ((1048576 - n : Nat) : Int) = 1048576 - (n : Int) := by omega
  have C1 := Lib.hid (fun W => szIntS_ok A n c 1048576 (by omega) (by omega) W)
  have C2 := Lib.hid (fun W => (e1 ▸ szIntS_ok B m d (1048576 - n) (by omega) (by omega) W))
  clear e1
  go_enter Try.func15, Try.ntmps15
  go_wp2_with fail
  refine (C1.out _).mono ?_
  rintro e w' ⟨rfl, rfl⟩
  go_wp2_with fail
  refine (C2.out _).mono ?_
  rintro e w' ⟨rfl, rfl⟩
  go_wp2
  go_ret
  exact ⟨rfl, by (repeat (first | exact New.refl _ | assumption | refine New.alloc ?_ _ | refine New.drew ?_ | refine New.drewN ?_ _ | refine New.setCell ?_ (by first | omega | (simp; omega) | (simp; done)) _ | refine New.trans ?_ (by assumption)))⟩
set_option maxHeartbeats 400000 in
theorem szBuffers_no (A : Option Addr) (n c : Nat) (B : Option Addr) (m d : Nat) (v : Int) (hn : n ≤ maxLen) (hm : m ≤ maxLen) (h : 1048576 < n + m) (w : World) :
    Calls Try.prog 15 #[.agg #[.slice A n c, .slice B m d, .int .i64 v], .int .i64 1048576] w fun e w' => e = .returned (.int .i64 (-1)) ∧ New w w' := by
  by_cases hb : 1048576 < n
  · have C1 := Lib.hid (fun W => szIntS_no A n c 1048576 hn hb W)
    clear hn hm h hb
    go_enter Try.func15, Try.ntmps15
    go_wp2_with fail
    refine (C1.out _).mono ?_
    rintro e w' ⟨rfl, rfl⟩
    go_wp2
    go_ret
    exact ⟨rfl, by (repeat (first | exact New.refl _ | assumption | refine New.alloc ?_ _ | refine New.drew ?_ | refine New.drewN ?_ _ | refine New.setCell ?_ (by first | omega | (simp; omega) | (simp; done)) _ | refine New.trans ?_ (by assumption)))⟩
  · have h2 : (n : Int) ≤ 1048576 := by omega
    have h3 : (0 : Int) ≤ (n : Int) := by omega
    have e1 : ((1048576 - n : Nat) : Int) = 1048576 - (n : Int) := by omega
    have C1 := Lib.hid (fun W => szIntS_ok A n c 1048576 (by omega) (by omega) W)
    have C2 := Lib.hid (fun W => (e1 ▸ szIntS_no B m d (1048576 - n) hm (by omega) W))
    clear e1 hn hm h hb
    go_enter Try.func15, Try.ntmps15
    go_wp2_with fail
    refine (C1.out _).mono ?_
    rintro e w' ⟨rfl, rfl⟩
    go_wp2_with fail
    refine (C2.out _).mono ?_
    rintro e w' ⟨rfl, rfl⟩
    go_wp2
    go_ret
    exact ⟨rfl, by (repeat (first | exact New.refl _ | assumption | refine New.alloc ?_ _ | refine New.drew ?_ | refine New.drewN ?_ _ | refine New.setCell ?_ (by first | omega | (simp; omega) | (simp; done)) _ | refine New.trans ?_ (by assumption)))⟩
set_option maxHeartbeats 1000000 in
theorem toBuffers_any (A : Option Addr) (n c : Nat) (B : Option Addr) (m d : Nat) (v : Int) (xs ys : List Int) (hn : n ≤ 1048576) (hm : m ≤ 1048576) (w : World) (hx : Ints w A n xs) (hy : Ints w B m ys) :
    Calls Try.prog 17 #[.agg #[.slice A n c, .slice B m d, .int .i64 v]] w (AnsB w v xs ys) := by
  have HX := Lib.hid hx; have HY := Lib.hid hy; have LX := Lib.hid hx.len; have LY := Lib.hid hy.len
  clear hx hy
  have C1 := Lib.hid (fun W h => toRes_any A n c xs hn W h)
  have C2 := Lib.hid (fun W h => toRes_any B m d ys hm W h)
  have P := Lib.hid (B3.laid w (.slice A n c) (.slice B m d) (.int .i64 v) 24)
  have Z := Lib.hid (fun (W : World) (k : Nat) (hk : W.heap.size = k) => B3.laid_at W (.slice none 0 0) (.slice none 0 0) (.int .i64 0) 27 hk)
  go_enter Try.func17, Try.ntmps17
  go_wp2_with fail
  refine (C1.out _ (HX.out.new (by (repeat (first | exact New.refl _ | assumption | refine New.alloc ?_ _ | refine New.drew ?_ | refine New.drewN ?_ _ | refine New.setCell ?_ (by first | omega | (simp; omega) | (simp; done)) _ | refine New.trans ?_ (by assumption)))))).mono ?_
  rintro e w1 ⟨A1, n1, c1, rfl, l1, r1, N1⟩
  have z1 : w.heap.size + 1 + 1 + 1 ≤ w1.heap.size := by have := N1.le; simpa using this
  have p1 := ((P.out.new (by (repeat (first | exact New.refl _ | assumption | refine New.alloc ?_ _ | refine New.drew ?_ | refine New.drewN ?_ _ | refine New.setCell ?_ (by first | omega | (simp; omega) | (simp; done)) _ | refine New.trans ?_ (by assumption))))).new N1); have q1 := ((Z.out (w.alloc (.cells #[.slice A n c, .slice B m d, .int .i64 v] 24)) (w.heap.size + 1) (by simp)).new (by (repeat (first | exact New.refl _ | assumption | refine New.alloc ?_ _ | refine New.drew ?_ | refine New.drewN ?_ _ | refine New.setCell ?_ (by first | omega | (simp; omega) | (simp; done)) _ | refine New.trans ?_ (by assumption))))).new N1; have o1 := (Z.out ((w.alloc (.cells #[.slice A n c, .slice B m d, .int .i64 v] 24)).alloc (.cells #[.slice none 0 0, .slice none 0 0, .int .i64 0] 27)) (w.heap.size + 1 + 1) (by simp)).new N1
  have M1 := Lib.hid (show New w w1 by (repeat (first | exact New.refl _ | assumption | refine New.alloc ?_ _ | refine New.drew ?_ | refine New.drewN ?_ _ | refine New.setCell ?_ (by first | omega | (simp; omega) | (simp; done)) _ | refine New.trans ?_ (by assumption))))
  have R1 := Lib.hid (r1.mono (show w.heap.size + 1 + 1 + 1 ≤ _ by simp) (Nat.le_refl _) (Nat.le_refl _)); have L1 := Lib.hid l1
  clear l1 r1 N1
  have P1 := Lib.hid p1; have Q1 := Lib.hid q1; have O1 := Lib.hid (o1.set0 (.slice A1 n1 c1))
  obtain ⟨_, _, p1, _, _, _, _⟩ := p1
  obtain ⟨_, o0, _, _, f0, _, _⟩ := o1
  go_wp2_with fail
  refine (C2.out _ (HY.out.new (M1.out.setCell (by simp; omega) _))).mono ?_
  rintro e w2 ⟨A2, n2, c2, rfl, l2, r2, N2⟩
  have z2 : w1.heap.size ≤ w2.heap.size := by have := N2.le; simpa [World.setCell] using this
  have R1 := Lib.hid ((R1.out.chg (Chg.set w1 _ _ _) (.inr (Nat.le_refl _))).new N2)
  have M2 := Lib.hid ((M1.out.setCell (by simp; omega) _).trans N2)
  have R2 := Lib.hid (r2.mono (show w1.heap.size ≤ _ by simp [World.setCell]) (Nat.le_refl _) (Nat.le_refl _)); have L2 := Lib.hid l2
  have p2 := (P1.out.far (by omega) _).new N2; have q2 := (Q1.out.far (by omega) _).new N2; have o2 := O1.out.new N2
  clear l2 r2 N2 p1 o0 f0
  have S := Lib.hid (((o2.set1 (.slice A2 n2 c2)).set2 (.int .i64 v)))
  obtain ⟨_, _, p1, p2, _, _, _⟩ := p2
  obtain ⟨_, o0, o1, o2, f0, f1, f2⟩ := o2
  have QW := Lib.hid q2
  obtain ⟨_, q0, q1, q2, g0, g1, g2⟩ := q2
  go_wp2
  have K := Lib.hid (show Chg (w.heap.size + 1) (w.heap.size + 1 + 1 + 1) w2 _ from (((((Chg.set w2 (w.heap.size + 1 + 1) 1 (.slice A2 n2 c2)).mono (by omega) (by omega)).trans ((Chg.set _ (w.heap.size + 1 + 1) 2 (.int .i64 v)).mono (by omega) (by omega))).trans ((Chg.set _ (w.heap.size + 1) 0 (.slice A1 n1 c1)).mono (by omega) (by omega))).trans ((Chg.set _ (w.heap.size + 1) 1 (.slice A2 n2 c2)).mono (by omega) (by omega))).trans ((Chg.set _ (w.heap.size + 1) 2 (.int .i64 v)).mono (by omega) (by omega)))
  have F := Lib.hid ((((((QW.out.far (h := w.heap.size + 1 + 1) (o := 1) (by omega) (.slice A2 n2 c2)).far (h := w.heap.size + 1 + 1) (o := 2) (by omega) (.int .i64 v)).set0 (.slice A1 n1 c1)).set1 (.slice A2 n2 c2)).set2 (.int .i64 v)))
  generalize (((((w2.setCell ⟨w.heap.size + 1 + 1, 1, none⟩ (.slice A2 n2 c2)).setCell ⟨w.heap.size + 1 + 1, 2, none⟩ (.int .i64 v)).setCell ⟨w.heap.size + 1, 0, none⟩ (.slice A1 n1 c1)).setCell ⟨w.heap.size + 1, 1, none⟩ (.slice A2 n2 c2)).setCell ⟨w.heap.size + 1, 2, none⟩ (.int .i64 v)) = W at K F ⊢
  refine bodyPost_ret (v := .agg #[.slice A1 n1 c1, .slice A2 n2 c2, .int .i64 v]) (by simp [results, Try.results17, go_sem, F.out.c0, F.out.c1, F.out.c2]) rfl ?_
  refine ⟨A1, n1, c1, A2, n2, c2, rfl, L1.out, L2.out, Res2.mk (l1 := w.heap.size + 1 + 1 + 1) (h1 := w1.heap.size) (l2 := w1.heap.size) (h2 := w2.heap.size) (by omega) (Nat.le_trans z2 K.out.size) (by omega) K.out.size (.inl (Nat.le_refl _)) (Nat.le_refl _) (R1.out.chg K.out (.inr (Nat.le_refl _))) (R2.out.chg K.out (.inr (by omega))), M2.out.chgs K.out (by omega)⟩
set_option maxHeartbeats 1000000 in
theorem eqBuffers_any (A : Option Addr) (n c : Nat) (B : Option Addr) (m d : Nat) (C : Option Addr) (p k : Nat) (D : Option Addr) (q l : Nat) (v : Int) (xs ys : List Int) (hn : n ≤ 1048576) (hm : m ≤ 1048576) (hp : p ≤ 1048576) (hq : q ≤ 1048576)
    (w : World) (hx : Ints w A n xs) (hy : Ints w B m ys) (hx' : Ints w C p xs) (hy' : Ints w D q ys) :
    Calls Try.prog 19 #[.agg #[.slice A n c, .slice B m d, .int .i64 v], .agg #[.slice C p k, .slice D q l, .int .i64 v]] w fun e w' => e = .returned (.bool true) ∧ New w w' := by
  have HX := Lib.hid hx; have HY := Lib.hid hy; have HX' := Lib.hid hx'; have HY' := Lib.hid hy'
  clear hx hy hx' hy'
  have C1 := Lib.hid (fun W h h' => eqRes_any A C n p c k xs xs hn hp W h h' rfl)
  have C2 := Lib.hid (fun W h h' => eqRes_any B D m q d l ys ys hm hq W h h' rfl)
  have P := Lib.hid (B3.laid w (.slice A n c) (.slice B m d) (.int .i64 v) 27)
  have Q := Lib.hid (B3.laid_at (k := w.heap.size + 1) (w.alloc (.cells #[.slice A n c, .slice B m d, .int .i64 v] 27)) (.slice C p k) (.slice D q l) (.int .i64 v) 27 (by simp))
  have N0 := Lib.hid (show New w ((w.alloc (.cells #[.slice A n c, .slice B m d, .int .i64 v] 27)).alloc (.cells #[.slice C p k, .slice D q l, .int .i64 v] 27)) by (repeat (first | exact New.refl _ | assumption | refine New.alloc ?_ _ | refine New.drew ?_ | refine New.drewN ?_ _ | refine New.setCell ?_ (by first | omega | (simp; omega) | (simp; done)) _ | refine New.trans ?_ (by assumption))))
  clear hn hm hp hq
  go_enter Try.func19, Try.ntmps19
  go_wp2_with fail
  refine (C1.out _ (HX.out.new N0.out) (HX'.out.new N0.out)).mono ?_
  rintro e w1 ⟨rfl, N1⟩
  have P1 := Lib.hid ((P.out.new (by (repeat (first | exact New.refl _ | assumption | refine New.alloc ?_ _ | refine New.drew ?_ | refine New.drewN ?_ _ | refine New.setCell ?_ (by first | omega | (simp; omega) | (simp; done)) _ | refine New.trans ?_ (by assumption))))).new N1); have Q1 := Lib.hid (Q.out.new N1); have N1 := Lib.hid (N0.out.trans N1)
  obtain ⟨_, p0, p1, p2, _, _, _⟩ := P1.out
  obtain ⟨_, q0, q1, q2, _, _, _⟩ := Q1.out
  go_wp2_with fail
  refine (C2.out _ (HY.out.new N1.out) (HY'.out.new N1.out)).mono ?_
  rintro e w2 ⟨rfl, N2⟩
  have P2 := Lib.hid (P1.out.new N2); have Q2 := Lib.hid (Q1.out.new N2); have N2 := Lib.hid (N1.out.trans N2)
  clear p0 p1 p2 q0 q1 q2
  obtain ⟨_, p0, p1, p2, _, _, _⟩ := P2.out
  obtain ⟨_, q0, q1, q2, _, _, _⟩ := Q2.out
  go_wp2
  go_ret
  exact ⟨rfl, N2.out⟩
set_option maxHeartbeats 1000000 in
theorem markBuffers_any (lo hi : Nat) (A : Option Addr) (n c : Nat) (B : Option Addr) (m d : Nat) (v : Int) (xs ys : List Int) (hn : n ≤ 1048576) (hm : m ≤ 1048576) (hxl : xs.length = n) (hyl : ys.length = m) (w : World) (h : Res2 lo hi w A xs B ys) :
    Calls Try.prog 24 #[.agg #[.slice A n c, .slice B m d, .int .i64 v], .int .i64 1] w fun e w' => e = .returned (.int .i64 (1 + (n : Int) + (m : Int))) ∧ Res2 lo hi w' A (marks 1 n) B (marks (1 + (n : Int)) m) ∧ Chg lo hi w w' := by
  obtain ⟨l1, h1, l2, h2, a1, a2, a3, a4, a5, a6, r1, r2⟩ := h
  have C1 := Lib.hid (fun W h => markRes_any l1 h1 A n c xs 1 (by omega) (by omega) hn hxl W h)
  have C2 := Lib.hid (fun W h => markRes_any l2 h2 B m d ys (1 + (n : Int)) (by omega) (by omega) hm hyl W h)
  have P := Lib.hid (B3.laid w (.slice A n c) (.slice B m d) (.int .i64 v) 27)
  have N0 := Lib.hid (show New w (w.alloc (.cells #[.slice A n c, .slice B m d, .int .i64 v] 27)) by (repeat (first | exact New.refl _ | assumption | refine New.alloc ?_ _ | refine New.drew ?_ | refine New.drewN ?_ _ | refine New.setCell ?_ (by first | omega | (simp; omega) | (simp; done)) _ | refine New.trans ?_ (by assumption))))
  have R1 := Lib.hid r1; have R2 := Lib.hid r2
  have n0 : (0 : Int) ≤ (n : Int) := by omega
  have n1 : (n : Int) ≤ 1048576 := by omega
  have m0 : (0 : Int) ≤ (m : Int) := by omega
  have m1 : (m : Int) ≤ 1048576 := by omega
  clear r1 r2 hn hm hxl hyl
  go_enter Try.func24, Try.ntmps24
  go_wp2_with fail
  refine (C1.out _ (R1.out.new N0.out)).mono ?_
  rintro e w1 ⟨rfl, r1, K1⟩
  have P1 := Lib.hid (P.out.chg K1 (by omega))
  have R2 := Lib.hid ((R2.out.new N0.out).chg K1 (by omega))
  have R1 := Lib.hid r1
  have K1 := Lib.hid ((N0.out.chg lo hi).trans (K1.mono a1 a2))
  clear r1
  obtain ⟨_, p0, p1, p2, _, _, _⟩ := P1.out
  go_wp2_with fail
  refine (C2.out _ R2.out).mono ?_
  rintro e w2 ⟨rfl, r2, K2⟩
  have R1 := Lib.hid (R1.out.chg K2 (by omega))
  have R2 := Lib.hid r2
  have K2 := Lib.hid (K1.out.trans (K2.mono a3 a4))
  clear r2 p0 p1 p2
  go_wp2
  go_ret
  exact ⟨rfl, Res2.mk a1 a2 a3 a4 a5 (Nat.le_trans a6 K2.out.size) R1.out R2.out, K2.out⟩
set_option maxHeartbeats 1000000 in
theorem heldBuffers_any (lo hi : Nat) (A : Option Addr) (n c : Nat) (B : Option Addr) (m d : Nat) (v : Int) (hn : n ≤ 1048576) (hm : m ≤ 1048576) (w : World) (h : Res2 lo hi w A (marks 1 n) B (marks (1 + (n : Int)) m)) :
    Calls Try.prog 25 #[.agg #[.slice A n c, .slice B m d, .int .i64 v], .int .i64 1] w fun e w' => e = .returned (.int .i64 (1 + (n : Int) + (m : Int))) ∧ New w w' := by
  obtain ⟨l1, h1, l2, h2, a1, a2, a3, a4, a5, a6, r1, r2⟩ := h
  have C1 := Lib.hid (fun W h => heldRes_any l1 h1 A n c 1 (by omega) (by omega) hn W h)
  have C2 := Lib.hid (fun W h => heldRes_any l2 h2 B m d (1 + (n : Int)) (by omega) (by omega) hm W h)
  have N0 := Lib.hid (show New w (w.alloc (.cells #[.slice A n c, .slice B m d, .int .i64 v] 27)) by (repeat (first | exact New.refl _ | assumption | refine New.alloc ?_ _ | refine New.drew ?_ | refine New.drewN ?_ _ | refine New.setCell ?_ (by first | omega | (simp; omega) | (simp; done)) _ | refine New.trans ?_ (by assumption))))
  have R1 := Lib.hid r1; have R2 := Lib.hid r2
  have n0 : (0 : Int) ≤ (n : Int) := by omega
  have n1 : (n : Int) ≤ 1048576 := by omega
  have m0 : (0 : Int) ≤ (m : Int) := by omega
  have m1 : (m : Int) ≤ 1048576 := by omega
  clear r1 r2 hn hm
  go_enter Try.func25, Try.ntmps25
  go_wp2_with fail
  refine (C1.out _ (R1.out.new N0.out)).mono ?_
  rintro e w1 ⟨rfl, rfl⟩
  go_wp2_with fail
  refine (C2.out _ (R2.out.new N0.out)).mono ?_
  rintro e w1 ⟨rfl, rfl⟩
  go_wp2
  go_ret
  exact ⟨rfl, N0.out⟩
end Go.Proofs.Ytopnegbaieflpaa
