/- Drawn buffers: what the generator of the arguments leaves: short rows of numbers that can be read. Condition: the code can be read. -/
import Derived.Test.YtbnelakllfbjiaaSpoilN
import Derived.Test.YtbnelakllfbjiaaBuf
namespace Go.Proofs.Ytbnelakllfbjiaa
open Go.RowKit

theorem Own.apart {lo : Nat} {w w' : World} {v : Value} {zs : List Int} (h : Own lo w v zs) {r : Option Nat} (k : w.grownBy w' r) (hr : ∀ g, r = some g → v.ownBlock ≠ some g) : Own lo w' v zs := by
  refine ⟨h.1, ?_⟩
  rcases h.2 with hn | ⟨g, cap, cur, hv, hg, hh, hc, hm, hs, ht⟩
  · exact .inl hn
  · have hlt : g < w.heap.size := by
      rcases Nat.lt_or_ge g w.heap.size with h1 | h1
      · exact h1
      · rw [Array.getElem?_eq_none h1] at hh; cases hh
    have hb : v.ownBlock = some g := by rw [hv]; rfl
    exact .inr ⟨g, cap, cur, hv, hg, (k.block g hlt (fun e => hr g e.symm hb)).trans hh, hc, hm, hs, ht⟩
theorem Own.blk {lo : Nat} {w : World} {v : Value} {zs : List Int} (h : Own lo w v zs) {g : Nat} (hg : v.ownBlock = some g) : g < w.heap.size := by
  rcases h.form with ⟨rfl, _⟩ | ⟨g', c, rfl, _, hR, _, e⟩
  · simp [Value.ownBlock] at hg
  · rw [e] at hg; have := Option.some.inj hg; have := hR.lt; omega
theorem grown_set (w : World) (g o : Nat) (u : Value) : w.grownBy (w.setCell ⟨g, o, none⟩ u) (some g) := own_set (World.grownBy.refl w (some g)) u
theorem B3.grown {w w' : World} {g : Nat} {u0 u1 u2 : Value} (h : B3 w g u0 u1 u2) {r : Option Nat} (k : w.grownBy w' r) (hr : r ≠ some g) : B3 w' g u0 u1 u2 :=
  have hb := k.block g h.lt (fun e => hr e.symm)
  ⟨Nat.lt_of_lt_of_le h.lt k.size, (World.cell?_of_block hb).trans h.c0, (World.cell?_of_block hb).trans h.c1, (World.cell?_of_block hb).trans h.c2, (World.frozen?_of_block (w := w) hb).trans h.f0, (World.frozen?_of_block (w := w) hb).trans h.f1, (World.frozen?_of_block (w := w) hb).trans h.f2⟩
/-- Two lists that grow, held in a struct variable in block g0, beside a reader in block a. -/
structure DB (w0 : World) (a : Nat) (A : Option Addr) (m q g0 : Nat) (w : World) (v1 v2 : Value) (zs1 zs2 : List Int) (ver : Int) : Prop where
  o1 : Own (w0.heap.size + 1) w v1 zs1
  o2 : Own (w0.heap.size + 1) w v2 zs2
  b : B3 w g0 v1 v2 (.int .i64 ver)
  r : B3 w w0.heap.size (.slice none 0 0) (.slice none 0 0) (.int .i64 0)
  a12 : ∀ g, v1.ownBlock = some g → v2.ownBlock ≠ some g
  a1 : v1.ownBlock ≠ some g0
  a2 : v2.ownBlock ≠ some g0
  rd : Rdr w a A m q
  gr : w0.grownBy w (some a)
  lt : a < w0.heap.size
  gl : w0.heap.size < g0
section
variable {w0 w w' : World} {a m q q' g0 : Nat} {A : Option Addr} {v1 v2 v' : Value} {zs1 zs2 zs' : List Int} {ver : Int}
theorem DB.call (h : DB w0 a A m q g0 w v1 v2 zs1 zs2 ver) (G : w.grownBy w' (some a)) (R : Rdr w' a A m q') : DB w0 a A m q' g0 w' v1 v2 zs1 zs2 ver :=
  have lt := h.lt; have gl := h.gl
  ⟨h.o1.kept G (fun g e => by have := Option.some.inj e; omega), h.o2.kept G (fun g e => by have := Option.some.inj e; omega), h.b.grown G (fun e => by have := Option.some.inj e; omega), h.r.grown G (fun e => by have := Option.some.inj e; omega), h.a12, h.a1, h.a2, R, only_trans h.gr G, h.lt, h.gl⟩
theorem DB.alloc (h : DB w0 a A m q g0 w v1 v2 zs1 zs2 ver) (o : Obj) : DB w0 a A m q g0 (w.alloc o) v1 v2 zs1 zs2 ver :=
  ⟨h.o1.alloc o, h.o2.alloc o, h.b.new ((New.refl w).alloc o), h.r.new ((New.refl w).alloc o), h.a12, h.a1, h.a2, h.rd.new ((New.refl w).alloc o), only_alloc h.gr o, h.lt, h.gl⟩
theorem ne_own {lo : Nat} {v : Value} {zs : List Int} (h : Own lo w v zs) {g : Nat} (hg : g < lo) : v.ownBlock ≠ some g := fun e => by have := h.below e; omega
theorem ne_new {lo : Nat} {v : Value} {zs : List Int} (h : Own lo w v zs) {g : Nat} (hg : w.heap.size ≤ g) : v.ownBlock ≠ some g := fun e => by have := h.blk e; omega
theorem DB.push1 (h : DB w0 a A m q g0 w v1 v2 zs1 zs2 ver) (ho : Own (w0.heap.size + 1) w' v' zs') (hg : w.grownBy w' v1.ownBlock) (hd : v'.ownBlock = v1.ownBlock ∨ v'.ownBlock = some w.heap.size) : DB w0 a A m q g0 (w'.setCell ⟨g0, 0, none⟩ v') v' v2 zs' zs2 ver := by
  have lt := h.lt; have gl := h.gl; have bl := h.b.lt
  have n0 : v'.ownBlock ≠ some g0 := by
    rcases hd with e | e
    · rw [e]; exact h.a1
    · rw [e]; intro e2; have := Option.some.inj e2; omega
  refine ⟨ho.apart (grown_set _ _ _ _) (fun g e => by have := Option.some.inj e; subst this; exact n0), (h.o2.apart hg h.a12).apart (grown_set _ _ _ _) (fun g e => by have := Option.some.inj e; subst this; exact h.a2), (h.b.grown hg h.a1).set0 v', (h.r.grown hg (ne_own h.o1 (by omega))).far (by omega) _, fun g e => ?_, n0, h.a2,
    (h.rd.grown hg (fun g e => by have := h.o1.below e; omega)).set (by show a < g0; omega) _, only_set (only_own h.gr hg h.o1 (by omega)) (by show w0.heap.size ≤ g0; omega) _, h.lt, h.gl⟩
  rcases hd with e2 | e2
  · rw [e2] at e; exact h.a12 g e
  · rw [e2] at e; have := Option.some.inj e; exact ne_new h.o2 (by omega)
theorem DB.push2 (h : DB w0 a A m q g0 w v1 v2 zs1 zs2 ver) (ho : Own (w0.heap.size + 1) w' v' zs') (hg : w.grownBy w' v2.ownBlock) (hd : v'.ownBlock = v2.ownBlock ∨ v'.ownBlock = some w.heap.size) : DB w0 a A m q g0 (w'.setCell ⟨g0, 1, none⟩ v') v1 v' zs1 zs' ver := by
  have lt := h.lt; have gl := h.gl; have bl := h.b.lt
  have n0 : v'.ownBlock ≠ some g0 := by
    rcases hd with e | e
    · rw [e]; exact h.a2
    · rw [e]; intro e2; have := Option.some.inj e2; omega
  refine ⟨(h.o1.apart hg (fun g e e2 => h.a12 g e2 e)).apart (grown_set _ _ _ _) (fun g e => by have := Option.some.inj e; subst this; exact h.a1), ho.apart (grown_set _ _ _ _) (fun g e => by have := Option.some.inj e; subst this; exact n0), (h.b.grown hg h.a2).set1 v', (h.r.grown hg (ne_own h.o2 (by omega))).far (by omega) _, fun g e e3 => ?_, h.a1, n0,
    (h.rd.grown hg (fun g e => by have := h.o2.below e; omega)).set (by show a < g0; omega) _, only_set (only_own h.gr hg h.o2 (by omega)) (by show w0.heap.size ≤ g0; omega) _, h.lt, h.gl⟩
  rcases hd with e2 | e2
  · rw [e2] at e3; exact h.a12 g e e3
  · rw [e2] at e3; have := Option.some.inj e3; exact ne_new h.o1 (by omega) e
theorem DB.setv (h : DB w0 a A m q g0 w v1 v2 zs1 zs2 ver) (z : Int) : DB w0 a A m q g0 (w.setCell ⟨g0, 2, none⟩ (.int .i64 z)) v1 v2 zs1 zs2 z := by
  have lt := h.lt; have gl := h.gl
  exact ⟨h.o1.apart (grown_set _ _ _ _) (fun g e => by have := Option.some.inj e; subst this; exact h.a1), h.o2.apart (grown_set _ _ _ _) (fun g e => by have := Option.some.inj e; subst this; exact h.a2), h.b.set2 _, h.r.far (by omega) _, h.a12, h.a1, h.a2, h.rd.set (by show a < g0; omega) _, only_set h.gr (by show w0.heap.size ≤ g0; omega) _, h.lt, h.gl⟩
/-- The buffers as they are handed back. -/
structure DF (w0 : World) (a : Nat) (A : Option Addr) (m q g0 : Nat) (w : World) (B : Option Addr) (n c : Nat) (C : Option Addr) (k d : Nat) (xs ys : List Int) (ver : Int) : Prop where
  iB : ∀ w2, Chg 0 (w0.heap.size + 1) w w2 → Ints w2 B n xs
  iC : ∀ w2, Chg 0 (w0.heap.size + 1) w w2 → Ints w2 C k ys
  b : B3 w g0 (.slice B n c) (.slice C k d) (.int .i64 ver)
  r : B3 w w0.heap.size (.slice none 0 0) (.slice none 0 0) (.int .i64 0)
  rd : Rdr w a A m q
  gr : w0.grownBy w (some a)
  lt : a < w0.heap.size
  gl : w0.heap.size < g0
theorem DB.df {B C : Option Addr} {n c k d : Nat} (h : DB w0 a A m q g0 w (.slice B n c) (.slice C k d) zs1 zs2 ver) : DF w0 a A m q g0 w B n c C k d zs1 zs2 ver := by
  refine ⟨fun w2 K => ?_, fun w2 K => ?_, h.b, h.r, h.rd, h.gr, h.lt, h.gl⟩
  · obtain ⟨A1, c1, e, _, Z⟩ := h.o1.res
    injection e with e1 e2 e3
    subst e1 e2
    exact (Z.chg K (.inr (Nat.le_refl _))).ints rfl
  · obtain ⟨A1, c1, e, _, Z⟩ := h.o2.res
    injection e with e1 e2 e3
    subst e1 e2
    exact (Z.chg K (.inr (Nat.le_refl _))).ints rfl
/-- Behind an append to the second list that is not stored yet. -/
theorem DB.grow2 (h : DB w0 a A m q g0 w v1 v2 zs1 zs2 ver) (hg : w.grownBy w' v2.ownBlock) : Own (w0.heap.size + 1) w' v1 zs1 ∧ B3 w' g0 v1 v2 (.int .i64 ver) ∧ B3 w' w0.heap.size (.slice none 0 0) (.slice none 0 0) (.int .i64 0) ∧ Rdr w' a A m q ∧ w0.grownBy w' (some a) := by
  have lt := h.lt; have gl := h.gl
  exact ⟨h.o1.apart hg (fun g e e2 => h.a12 g e2 e), h.b.grown hg h.a2, h.r.grown hg (ne_own h.o2 (by omega)), h.rd.grown hg (fun g e => by have := h.o2.below e; omega), only_own h.gr hg h.o2 (by omega)⟩
end
/-- What drawing buffers leaves: they can be read wherever only older blocks turned; the reader moved on; nothing else turned. -/
def DrawnB (w : World) (a : Nat) (A : Option Addr) (m p : Nat) (e : Ending) (w' : World) : Prop :=
  ∃ (B : Option Addr) (n c : Nat) (C : Option Addr) (k d : Nat) (v : Int) (xs ys : List Int), e = .returned (.agg #[.slice B n c, .slice C k d, .int .i64 v]) ∧ (∀ w2, Chg 0 w.heap.size w' w2 → Ints w2 B n xs ∧ Ints w2 C k ys) ∧ n ≤ 100 ∧ k ≤ 100 ∧ (∃ q, q ≤ p + 100 ∧ Rdr w' a A m q) ∧ w.grownBy w' (some a)
set_option maxRecDepth 100000 in
set_option maxHeartbeats 4000000 in
theorem anyBuffers_any (a : Nat) (A : Option Addr) (m p : Nat) (hp : p ≤ 800000) (hm : m ≤ 2000) (w : World) (h : Rdr w a A m p) :
    Calls Try.prog 46 #[.pointer (some ⟨a, 0, none⟩)] w (DrawnB w a A m p) := by
  have hlt : a < w.heap.size := World.block_lt_of_cell? w ⟨a, 1, none⟩ h.pos
  have HR := Lib.hid h
  clear h
  go_enter Try.func46, Try.ntmps46
  go_wp2_with fail
  refine (one_any [0, 1, 5, 999, 1000] (by simp) (by simp) (w.heap.size + 1 + 1 + 1) 5 a A m p (by omega) hm _ (HR.out.new (by (repeat (first | exact New.refl _ | assumption | refine New.alloc ?_ _ | refine New.drew ?_ | refine New.drewN ?_ _ | refine New.setCell ?_ (by first | omega | (simp; omega) | (simp; done)) _ | refine New.trans ?_ (by assumption))))) (by omega) (by simp) (lit_at [0, 1, 5, 999, 1000] ((((w.alloc (.cells #[.slice none 0 0, .slice none 0 0, .int .i64 0] 25))).alloc (.cells #[] 3)).alloc (.cells #[] 3)) 3 (w.heap.size + 1 + 1 + 1) (by simp))).mono ?_
  rintro e w4 ⟨ver, rfl, hver, R4, G4⟩
  have z4 : w.heap.size + 1 + 1 + 1 + 1 ≤ w4.heap.size := by have := G4.size; simpa using this
  have O1 := Lib.hid (((((show Own (w.heap.size + 1) ((w.alloc (.cells #[.slice none 0 0, .slice none 0 0, .int .i64 0] 25)).alloc (.cells #[] 3)) (.slice (some ⟨w.heap.size + 1, 0, none⟩) 0 0) [] by have h := Own.empty (lo := w.heap.size + 1) (w.alloc (.cells #[.slice none 0 0, .slice none 0 0, .int .i64 0] 25)) 0 (by simp) rfl; simpa using h).alloc (.cells #[] 3)).alloc (.cells #[.int .i64 0, .int .i64 1, .int .i64 5, .int .i64 999, .int .i64 1000] 3)).kept G4 (fun g e => by have := Option.some.inj e; omega)))
  have O2 := Lib.hid ((((show Own (w.heap.size + 1) (((w.alloc (.cells #[.slice none 0 0, .slice none 0 0, .int .i64 0] 25)).alloc (.cells #[] 3)).alloc (.cells #[] 3)) (.slice (some ⟨w.heap.size + 1 + 1, 0, none⟩) 0 0) [] by have h := Own.empty (lo := w.heap.size + 1) ((w.alloc (.cells #[.slice none 0 0, .slice none 0 0, .int .i64 0] 25)).alloc (.cells #[] 3)) 0 (by simp) rfl; simpa using h).alloc (.cells #[.int .i64 0, .int .i64 1, .int .i64 5, .int .i64 999, .int .i64 1000] 3)).kept G4 (fun g e => by have := Option.some.inj e; omega)))
  have B0 := Lib.hid ((((B3.laid w (.slice none 0 0) (.slice none 0 0) (.int .i64 0) 25).new (by (repeat (first | exact New.refl _ | assumption | refine New.alloc ?_ _ | refine New.drew ?_ | refine New.drewN ?_ _ | refine New.setCell ?_ (by first | omega | (simp; omega) | (simp; done)) _ | refine New.trans ?_ (by assumption))))).grown G4 (fun e => by have := Option.some.inj e; omega)))
  have GR := Lib.hid (only_trans (only_alloc (only_alloc (only_alloc (only_alloc (only_refl (w0 := w) (a := a)) (.cells #[.slice none 0 0, .slice none 0 0, .int .i64 0] 25)) (.cells #[] 3)) (.cells #[] 3)) (.cells #[.int .i64 0, .int .i64 1, .int .i64 5, .int .i64 999, .int .i64 1000] 3)) G4)
  have D4 := Lib.hid (show DB w a A m (p + 1) w4.heap.size (w4.alloc (.cells #[.slice (some ⟨w.heap.size + 1, 0, none⟩) 0 0, .slice (some ⟨w.heap.size + 1 + 1, 0, none⟩) 0 0, .int .i64 ver] 25)) (.slice (some ⟨w.heap.size + 1, 0, none⟩) 0 0) (.slice (some ⟨w.heap.size + 1 + 1, 0, none⟩) 0 0) [] [] ver from
    ⟨O1.out.alloc _, O2.out.alloc _, B3.laid w4 _ _ _ _, B0.out.new ((New.refl _).alloc _), fun g e e2 => (by simp [Value.ownBlock] at e e2; omega), fun e => (by simp [Value.ownBlock] at e; omega), fun e => (by simp [Value.ownBlock] at e; omega), R4.new ((New.refl _).alloc _), only_alloc GR.out _, hlt, by omega⟩)
  clear hver R4 G4 O1 O2 B0 GR
  go_wp2_with fail
  refine (one_any [4, 3, 6, 1, 16, 2] (by simp) (by simp) (w4.heap.size + 1) 6 a A m (p + 1) (by omega) hm _ (D4.out.alloc _).rd (by omega) (by simp) (lit_at [4, 3, 6, 1, 16, 2] _ _ _ (by first | rfl | simp))).mono ?_
  rintro e w5 ⟨k, rfl, hk, R5, G5⟩
  have kb : 0 ≤ k ∧ k ≤ 16 := by { simp at hk; omega }
  have z5 : (w4.heap.size + 1) + 1 ≤ w5.heap.size := by have := G5.size; simpa using this
  have D5 := Lib.hid ((D4.out.alloc (.cells ([4, 3, 6, 1, 16, 2].map (Value.int .i64)).toArray 3)).call G5 R5)
  clear hk R5 G5
  obtain ⟨j, rfl⟩ := Int.eq_ofNat_of_zero_le kb.1
  go_wp2
  go_loopw [4] (fun kk wr => ∃ (i : Nat) (v1 v2 : Value) (zs1 zs2 : List Int) (q : Nat), i ≤ 16 ∧ kk = .int .i64 (i : Int) ∧ Hid (DB w a A m q w4.heap.size wr v1 v2 zs1 zs2 ver) ∧ zs1.length + i ≤ 16 ∧ zs2.length = zs1.length ∧ Hid (Sml zs2) ∧ q ≤ p + 2 + 3 * zs1.length) (fun kk _ => (intOf kk).toNat)
  case atStart => exact ⟨j, _, _, [], [], p + 1 + 1, by omega, rfl, D5, by simp; omega, rfl, Lib.hid Sml.nil, by simp⟩
  case round =>
    obtain ⟨i, v1, v2, zs1, zs2, q, hi, rfl, DD, hl, hl2, HS, hq⟩ := hrel
    obtain ⟨_, b00, b01, b02, b0f0, b0f1, b0f2⟩ := DD.out.b
    by_cases h0 : 0 < i
    · have hi0 : (0 : Int) < (i : Int) := by omega
      have hi9 : (i : Int) ≤ 16 := by omega
      go_wp2_with fail
      refine (one_any [0, 1, -5, 100, 10000, 7] (by simp) (by simp) wr.heap.size 6 a A m q (by omega) hm _ (DD.out.alloc _).rd (by omega) (by simp) (lit_at [0, 1, -5, 100, 10000, 7] _ _ _ (by first | rfl | simp))).mono ?_
      rintro e w6 ⟨x, rfl, hx, R6, G6⟩
      have xb := one_sml hx (by simp)
      have z6 : wr.heap.size + 1 ≤ w6.heap.size := by have := G6.size; simpa using this
      have D6 := Lib.hid ((DD.out.alloc (.cells ([0, 1, -5, 100, 10000, 7].map (Value.int .i64)).toArray 3)).call G6 R6)
      clear hx R6 G6
      clear b00 b01 b02 b0f0 b0f1 b0f2
      obtain ⟨_, c0, c1, c2, cf0, cf1, cf2⟩ := D6.out.b
      go_wp2_with (at_builtin; refine wp_app2 rfl _ _ (by rfl) (w.heap.size + 1) _ zs1 (by rfl) (D6.out.o1.alloc _) w6.heap.size x (by rfl) (Ints.one w6 x _) (by omega) (by have := D6.out.gr.size; first | omega | (simp; omega) | (simp; done)) ?_; intro v7 w7 O7 G7 H7; (obtain ⟨A7, n7, c7, rfl⟩ : ∃ A n c, v7 = .slice A n c := by { obtain ⟨A, c, e, _⟩ := O7.res; exact ⟨A, _, c, e⟩ }); (have D7 := Lib.hid ((D6.out.alloc _).push1 O7 G7 H7)); (have z7 : w6.heap.size + 1 ≤ w7.heap.size := by { have := G7.size; simpa using this }); (have B7 := Lib.hid ((D6.out.b.new ((New.refl _).alloc (.cells #[.int .i64 x] 3))).grown G7 D6.out.a1)); (obtain ⟨_, b70, b71, b72, b7f0, b7f1, b7f2⟩ := B7.out); clear c0 c1 c2 cf0 cf1 cf2 O7 G7 H7)
      refine (pick_any 3 a A m (q + 1) (by omega) hm _ D7.out.rd).mono ?_
      rintro e w8 ⟨y, rfl, y0, y1, R8, G8⟩
      have y1 := y1 (by omega)
      have z8 : w7.heap.size ≤ w8.heap.size := by have := G8.size; simpa [World.setCell] using this
      have D8 := Lib.hid (D7.out.call G8 R8)
      clear b70 b71 b72 b7f0 b7f1 b7f2 R8 G8
      obtain ⟨_, d0, d1, d2, df0, df1, df2⟩ := D8.out.b
      have L1 : (zs1 ++ [x]).length = zs1.length + 1 := by simp
      by_cases e0 : y = 0
      · subst e0
        go_wp2_with fail
        refine (one_any [0, 2, -10000, 8] (by simp) (by simp) w8.heap.size 4 a A m (q + 1 + 1) (by omega) hm _ (D8.out.alloc _).rd (by omega) (by simp) (lit_at [0, 2, -10000, 8] _ _ _ (by first | rfl | simp))).mono ?_
        rintro e w9 ⟨u, rfl, hu, R9, G9⟩
        have ub := one_sml hu (by simp)
        have z9 : w8.heap.size + 1 ≤ w9.heap.size := by have := G9.size; simpa using this
        have D9 := Lib.hid ((D8.out.alloc (.cells ([0, 2, -10000, 8].map (Value.int .i64)).toArray 3)).call G9 R9)
        clear hu R9 G9
        clear d0 d1 d2 df0 df1 df2
        obtain ⟨_, e0, e1, e2, ef0, ef1, ef2⟩ := D9.out.b
        go_wp2_with (at_builtin; refine wp_app2 rfl _ _ (by rfl) (w.heap.size + 1) _ zs2 (by rfl) (D9.out.o2.alloc _) w9.heap.size u (by rfl) (Ints.one w9 u _) (by omega) (by have := D9.out.gr.size; first | omega | (simp; omega) | (simp; done)) ?_; intro v10 w10 O10 G10 H10; (obtain ⟨A10, n10, c10, rfl⟩ : ∃ A n c, v10 = .slice A n c := by { obtain ⟨A, c, e, _⟩ := O10.res; exact ⟨A, _, c, e⟩ }); (have D10 := Lib.hid ((D9.out.alloc _).push2 O10 G10 H10)); (have z10 : w9.heap.size + 1 ≤ w10.heap.size := by { have := G10.size; simpa using this }); (have B10 := Lib.hid ((D9.out.b.new ((New.refl _).alloc (.cells #[.int .i64 u] 3))).grown G10 D9.out.a2)); (obtain ⟨_, b100, b101, b102, b10f0, b10f1, b10f2⟩ := B10.out); clear e0 e1 e2 ef0 ef1 ef2 O10 G10 H10)
        go_roundw
        case rel => exact ⟨i - 1, _, _, zs1 ++ [x], zs2 ++ [u], _, by omega, by go_num, D10, by omega, by simp [hl2], Lib.hid (HS.out.snoc ub), by omega⟩
        case measure => simp [intOf]; omega
      · have e1 : (y == 0) = false := by simpa using e0
        go_wp2_with (at_builtin; refine wp_app2 rfl _ _ (by rfl) (w.heap.size + 1) _ zs2 (by rfl) (D8.out.o2.alloc _) w8.heap.size x (by rfl) (Ints.one w8 x _) (by omega) (by have := D8.out.gr.size; first | omega | (simp; omega) | (simp; done)) ?_; intro v9 w9 O9 G9 H9; (obtain ⟨A9, n9, c9, rfl⟩ : ∃ A n c, v9 = .slice A n c := by { obtain ⟨A, c, e, _⟩ := O9.res; exact ⟨A, _, c, e⟩ }); (have D9 := Lib.hid ((D8.out.alloc _).push2 O9 G9 H9)); (have z9 : w8.heap.size + 1 ≤ w9.heap.size := by { have := G9.size; simpa using this }); (have B9 := Lib.hid ((D8.out.b.new ((New.refl _).alloc (.cells #[.int .i64 x] 3))).grown G9 D8.out.a2)); (obtain ⟨_, b90, b91, b92, b9f0, b9f1, b9f2⟩ := B9.out); clear d0 d1 d2 df0 df1 df2 O9 G9 H9)
        go_roundw
        case rel => exact ⟨i - 1, _, _, zs1 ++ [x], zs2 ++ [x], _, by omega, by go_num, D9, by omega, by simp [hl2], Lib.hid (HS.out.snoc xb), by omega⟩
        case measure => simp [intOf]; omega
    · obtain rfl : i = 0 := by omega
      obtain ⟨B, n1, c, rfl, hn1⟩ : ∃ B n c, v1 = .slice B n c ∧ zs1.length = n := by obtain ⟨A, c, e, _⟩ := DD.out.o1.res; exact ⟨A, _, c, e, rfl⟩
      obtain ⟨C, k2, d, rfl, hk2⟩ : ∃ C k d, v2 = .slice C k d ∧ zs2.length = k := by obtain ⟨A, c, e, _⟩ := DD.out.o2.res; exact ⟨A, _, c, e, rfl⟩
      have HN := Lib.hid hn1; have HK := Lib.hid hk2
      have n16 : n1 ≤ 16 := by omega
      have k16 : k2 ≤ 16 := by omega
      clear hn1 hk2
      go_wp2_with fail
      refine (pick_any 20 a A m q (by omega) hm _ DD.out.rd).mono ?_
      rintro e w6 ⟨y, rfl, y0, y1, R6, G6⟩
      have y1 := y1 (by omega)
      have z6 := G6.size
      have D6 := Lib.hid (DD.out.call G6 R6)
      clear b00 b01 b02 b0f0 b0f1 b0f2 R6 G6
      obtain ⟨_, c0, c1, c2, cf0, cf1, cf2⟩ := D6.out.b
      obtain ⟨_, r0, r1, r2, rf0, rf1, rf2⟩ := D6.out.r
      by_cases e0 : y = 0
      · subst e0
        go_wp2_with (at_builtin; refine wp_app2 rfl _ _ (by rfl) (w.heap.size + 1) _ zs2 (by rfl) (D6.out.o2.alloc _) w6.heap.size 0 (by rfl) (Ints.one w6 0 _) (by have := HK.out; omega) (by have := D6.out.gr.size; first | omega | (simp; omega) | (simp; done)) ?_; intro v7 w7 O7 G7 H7; (obtain ⟨A7, n7, c7, rfl⟩ : ∃ A n c, v7 = .slice A n c := by { obtain ⟨A, c, e, _⟩ := O7.res; exact ⟨A, _, c, e⟩ }); (have z7 : w6.heap.size + 1 ≤ w7.heap.size := by { have := G7.size; simpa using this }); (have D7 := Lib.hid ((D6.out.alloc _).grow2 G7)); (have P7 := Lib.hid O7); clear c0 c1 c2 cf0 cf1 cf2 r0 r1 r2 rf0 rf1 rf2 O7 G7 H7)
        obtain ⟨o1, bb, rr, rd, gr⟩ := D7.out
        have IA : Ints w7 A7 n7 (zs2 ++ [0]) := by
          obtain ⟨A1, c1, e, _, Z⟩ := P7.out.res
          injection e with e1 e2 e3
          subst e1 e2
          exact Z.ints rfl
        have lA : n7 ≤ 17 := by have h1 := IA.len; have h2 := HK.out; rw [List.length_append] at h1; simp at h1; omega
        have IA := Lib.hid IA; have o1 := Lib.hid o1; have B7 := Lib.hid bb; have R7 := Lib.hid rr; have rd := Lib.hid rd; have gr := Lib.hid gr
        clear bb rr
        refine (spoil_anyN 17 (by omega) A7 n7 c7 (zs2 ++ [0]) 10001 (by omega) lA (HS.out.snoc (by omega)) a A m (q + 1) (by omega) hm _ rd.out IA.out).mono ?_
        rintro e w8 ⟨B8, n8, c8, ys, rfl, I8, l8, S8, ⟨q8, lq8, R8⟩, G8, _, _⟩
        have gl := DD.out.gl
        have wl := gr.out.size
        have z8 := G8.size
        have B8' := B7.out.grown G8 (fun e => by have := Option.some.inj e; omega)
        have R8' := R7.out.grown G8 (fun e => by have := Option.some.inj e; omega)
        have o8 := Lib.hid (o1.out.kept G8 (fun g e => by have := Option.some.inj e; omega))
        have g0l : w4.heap.size < w7.heap.size := B7.out.lt
        have DFI := Lib.hid (show DF w a A m q8 w4.heap.size (w8.setCell ⟨w4.heap.size, 1, none⟩ (.slice B8 n8 c8)) B n1 c B8 n8 c8 zs1 ys ver from
          ⟨fun w2 K => by
            have ho := o8.out.apart (grown_set w8 w4.heap.size 1 (.slice B8 n8 c8)) (fun g e => by have := Option.some.inj e; subst this; exact DD.out.a1)
            obtain ⟨A1, c1, e, _, Z⟩ := ho.res
            injection e with e1 e2 e3
            subst e1 e2
            exact (Z.chg K (.inr (Nat.le_refl _))).ints rfl,
           fun w2 K => I8 w2 (((Chg.set w8 w4.heap.size 1 _).mono (Nat.zero_le _) (by omega)).trans (K.mono (Nat.le_refl _) (by omega))), B8'.set1 _, R8'.far (by omega) _, R8.set (by show a < w4.heap.size; omega) _, only_set (only_trans gr.out G8) (by show w.heap.size ≤ w4.heap.size; omega) _, hlt, gl⟩)
        obtain ⟨_, c0, c1, c2, cf0, cf1, cf2⟩ := B8'
        obtain ⟨_, r0, r1, r2, rf0, rf1, rf2⟩ := R8'
        have I8 := Lib.hid I8; have S8 := Lib.hid S8
        clear R8 G8
        go_wp2
        have DX := Lib.hid (DFI.out)
        have F := Lib.hid (((DX.out.r.set0 (.slice B n1 c)).set1 (.slice B8 n8 c8)).set2 (.int .i64 ver))
        have K := Lib.hid (show Chg 0 (w.heap.size + 1) (w8.setCell ⟨w4.heap.size, 1, none⟩ (.slice B8 n8 c8)) _ from ((((Chg.set (w8.setCell ⟨w4.heap.size, 1, none⟩ (.slice B8 n8 c8)) w.heap.size 0 (.slice B n1 c)).trans (Chg.set _ w.heap.size 1 (.slice B8 n8 c8))).trans (Chg.set _ w.heap.size 2 (.int .i64 ver))).mono (Nat.zero_le _) (Nat.le_refl _)))
        have RX := Lib.hid (((DX.out.rd.set (q := ⟨w.heap.size, 0, none⟩) hlt (.slice B n1 c)).set (q := ⟨w.heap.size, 1, none⟩) hlt (.slice B8 n8 c8)).set (q := ⟨w.heap.size, 2, none⟩) hlt (.int .i64 ver))
        have GX := Lib.hid (only_set (q := ⟨w.heap.size, 2, none⟩) (only_set (q := ⟨w.heap.size, 1, none⟩) (only_set (q := ⟨w.heap.size, 0, none⟩) DX.out.gr (Nat.le_refl _) (.slice B n1 c)) (Nat.le_refl _) (.slice B8 n8 c8)) (Nat.le_refl _) (.int .i64 ver))
        generalize ((((w8.setCell ⟨w4.heap.size, 1, none⟩ (.slice B8 n8 c8)).setCell ⟨w.heap.size, 0, none⟩ (.slice B n1 c)).setCell ⟨w.heap.size, 1, none⟩ (.slice B8 n8 c8)).setCell ⟨w.heap.size, 2, none⟩ (.int .i64 ver)) = W at F K RX GX ⊢
        refine bodyPost_ret (v := .agg #[.slice B n1 c, .slice B8 n8 c8, .int .i64 ver]) (by simp [results, Try.results46, go_sem, F.out.c0, F.out.c1, F.out.c2]) rfl ?_
        exact ⟨B, n1, c, B8, n8, c8, ver, zs1, ys, rfl, fun w2 K2 => ⟨DX.out.iB w2 (K.out.trans (K2.mono (Nat.le_refl _) (by omega))), DX.out.iC w2 (K.out.trans (K2.mono (Nat.le_refl _) (by omega)))⟩, by omega, by omega, ⟨q8, by omega, RX.out⟩, GX.out⟩
      · by_cases e1 : y = 1
        · subst e1
          clear e0
          go_wp2_with fail
          refine (one_any [-1, 1001] (by simp) (by simp) w6.heap.size 2 a A m (q + 1) (by omega) hm _ (D6.out.alloc _).rd (by omega) (by simp) (lit_at [-1, 1001] _ _ _ (by first | rfl | simp))).mono ?_
          rintro e w7 ⟨u, rfl, hu, R7, G7⟩
          have ub := one_sml hu (by simp)
          have z7 : w6.heap.size + 1 ≤ w7.heap.size := by have := G7.size; simpa using this
          have D7 := Lib.hid ((D6.out.alloc (.cells ([-1, 1001].map (Value.int .i64)).toArray 3)).call G7 R7)
          clear hu R7 G7
          have D8 := Lib.hid (D7.out.setv u)
          clear c0 c1 c2 cf0 cf1 cf2 r0 r1 r2 rf0 rf1 rf2
          obtain ⟨_, c0, c1, c2, cf0, cf1, cf2⟩ := D7.out.b
          obtain ⟨_, r0, r1, r2, rf0, rf1, rf2⟩ := D7.out.r
          have gl := DD.out.gl
          go_wp2
          have DX := Lib.hid (D8.out.df)
          have F := Lib.hid (((DX.out.r.set0 (.slice B n1 c)).set1 (.slice C k2 d)).set2 (.int .i64 u))
          have K := Lib.hid (show Chg 0 (w.heap.size + 1) (w7.setCell ⟨w4.heap.size, 2, none⟩ (.int .i64 u)) _ from ((((Chg.set (w7.setCell ⟨w4.heap.size, 2, none⟩ (.int .i64 u)) w.heap.size 0 (.slice B n1 c)).trans (Chg.set _ w.heap.size 1 (.slice C k2 d))).trans (Chg.set _ w.heap.size 2 (.int .i64 u))).mono (Nat.zero_le _) (Nat.le_refl _)))
          have RX := Lib.hid (((DX.out.rd.set (q := ⟨w.heap.size, 0, none⟩) hlt (.slice B n1 c)).set (q := ⟨w.heap.size, 1, none⟩) hlt (.slice C k2 d)).set (q := ⟨w.heap.size, 2, none⟩) hlt (.int .i64 u))
          have GX := Lib.hid (only_set (q := ⟨w.heap.size, 2, none⟩) (only_set (q := ⟨w.heap.size, 1, none⟩) (only_set (q := ⟨w.heap.size, 0, none⟩) DX.out.gr (Nat.le_refl _) (.slice B n1 c)) (Nat.le_refl _) (.slice C k2 d)) (Nat.le_refl _) (.int .i64 u))
          generalize ((((w7.setCell ⟨w4.heap.size, 2, none⟩ (.int .i64 u)).setCell ⟨w.heap.size, 0, none⟩ (.slice B n1 c)).setCell ⟨w.heap.size, 1, none⟩ (.slice C k2 d)).setCell ⟨w.heap.size, 2, none⟩ (.int .i64 u)) = W at F K RX GX ⊢
          refine bodyPost_ret (v := .agg #[.slice B n1 c, .slice C k2 d, .int .i64 u]) (by simp [results, Try.results46, go_sem, F.out.c0, F.out.c1, F.out.c2]) rfl ?_
          exact ⟨B, n1, c, C, k2, d, u, zs1, zs2, rfl, fun w2 K2 => ⟨DX.out.iB w2 (K.out.trans (K2.mono (Nat.le_refl _) (by omega))), DX.out.iC w2 (K.out.trans (K2.mono (Nat.le_refl _) (by omega)))⟩, by omega, by omega, ⟨q + 1 + 1, by omega, RX.out⟩, GX.out⟩
        · have e2 : (y == 0) = false := by simpa using e0
          have e3 : (y == 1) = false := by simpa using e1
          have gl := DD.out.gl
          go_wp2
          have DX := Lib.hid (D6.out.df)
          have F := Lib.hid (((DX.out.r.set0 (.slice B n1 c)).set1 (.slice C k2 d)).set2 (.int .i64 ver))
          have K := Lib.hid (show Chg 0 (w.heap.size + 1) w6 _ from ((((Chg.set w6 w.heap.size 0 (.slice B n1 c)).trans (Chg.set _ w.heap.size 1 (.slice C k2 d))).trans (Chg.set _ w.heap.size 2 (.int .i64 ver))).mono (Nat.zero_le _) (Nat.le_refl _)))
          have RX := Lib.hid (((DX.out.rd.set (q := ⟨w.heap.size, 0, none⟩) hlt (.slice B n1 c)).set (q := ⟨w.heap.size, 1, none⟩) hlt (.slice C k2 d)).set (q := ⟨w.heap.size, 2, none⟩) hlt (.int .i64 ver))
          have GX := Lib.hid (only_set (q := ⟨w.heap.size, 2, none⟩) (only_set (q := ⟨w.heap.size, 1, none⟩) (only_set (q := ⟨w.heap.size, 0, none⟩) DX.out.gr (Nat.le_refl _) (.slice B n1 c)) (Nat.le_refl _) (.slice C k2 d)) (Nat.le_refl _) (.int .i64 ver))
          generalize (((w6.setCell ⟨w.heap.size, 0, none⟩ (.slice B n1 c)).setCell ⟨w.heap.size, 1, none⟩ (.slice C k2 d)).setCell ⟨w.heap.size, 2, none⟩ (.int .i64 ver)) = W at F K RX GX ⊢
          refine bodyPost_ret (v := .agg #[.slice B n1 c, .slice C k2 d, .int .i64 ver]) (by simp [results, Try.results46, go_sem, F.out.c0, F.out.c1, F.out.c2]) rfl ?_
          exact ⟨B, n1, c, C, k2, d, ver, zs1, zs2, rfl, fun w2 K2 => ⟨DX.out.iB w2 (K.out.trans (K2.mono (Nat.le_refl _) (by omega))), DX.out.iC w2 (K.out.trans (K2.mono (Nat.le_refl _) (by omega)))⟩, by omega, by omega, ⟨q + 1, by omega, RX.out⟩, GX.out⟩
end Go.Proofs.Ytbnelakllfbjiaa
