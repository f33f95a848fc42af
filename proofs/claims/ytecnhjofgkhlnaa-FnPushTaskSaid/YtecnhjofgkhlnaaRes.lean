/- Rows of numbers that a call hands back, between two marks of the memory's size; what a change between two marks leaves of all others. Conditions: the slices can be read. -/
import Derived.Test.YtecnhjofgkhlnaaOwn2
namespace Go.Proofs.Ytecnhjofgkhlnaa
open Go.RowKit

/-- Only blocks between two marks have turned, and new blocks are there. -/
structure Chg (lo hi : Nat) (w w' : World) : Prop where
  os : w'.os = w.os
  tape : w'.tape = w.tape
  output : w'.output = w.output
  size : w.heap.size ≤ w'.heap.size
  block : ∀ k, k < w.heap.size → ¬ (lo ≤ k ∧ k < hi) → w'.heap[k]? = w.heap[k]?
section
variable {lo hi lo' hi' g n : Nat} {w w1 w2 : World} {A : Option Addr} {zs xs : List Int}
theorem New.chg (h : New w w1) (lo hi : Nat) : Chg lo hi w w1 := ⟨h.os, h.tape, h.output, h.size, fun k hk _ => h.block k hk⟩
theorem Chg.refl (lo hi : Nat) (w : World) : Chg lo hi w w := ⟨rfl, rfl, rfl, Nat.le_refl _, fun _ _ _ => rfl⟩
theorem Chg.trans (h : Chg lo hi w w1) (k : Chg lo hi w1 w2) : Chg lo hi w w2 :=
  ⟨k.os.trans h.os, k.tape.trans h.tape, k.output.trans h.output, Nat.le_trans h.size k.size, fun i hi' hn => (k.block i (Nat.lt_of_lt_of_le hi' h.size) hn).trans (h.block i hi' hn)⟩
theorem Chg.of_grown (h : w.grownBy w1 (some g)) (h1 : lo ≤ g) (h2 : g < hi) : Chg lo hi w w1 :=
  ⟨h.os, h.tape, h.output, h.size, fun k hk hn => h.block k hk (fun e => hn (by have := Option.some.inj e; omega))⟩
theorem Chg.new (h : Chg lo hi w1 w2) (k : New w w1) (hl : w.heap.size ≤ lo) : New w w2 :=
  ⟨h.os.trans k.os, h.tape.trans k.tape, h.output.trans k.output, Nat.le_trans k.size h.size, fun i hi' => (h.block i (Nat.lt_of_lt_of_le hi' k.size) (by omega)).trans (k.block i hi')⟩
theorem Row.chg (h : Row w g zs) (k : Chg lo hi w w1) (hn : ¬ (lo ≤ g ∧ g < hi)) : Row w1 g zs :=
  ⟨Nat.lt_of_lt_of_le h.lt k.size, fun i hi' => (World.cell?_of_block (k.block g h.lt hn)).trans (h.c i hi'), fun i hi' => (World.frozen?_of_block (w := w) (k.block g h.lt hn)).trans (h.f i hi')⟩
/-- The numbers zs lie in a block between two marks, from its beginning on; where there are none, nothing is said. -/
def Res (lo hi : Nat) (w : World) (A : Option Addr) (zs : List Int) : Prop :=
  hi ≤ w.heap.size ∧ (0 < zs.length → ∃ g, A = some ⟨g, 0, none⟩ ∧ lo ≤ g ∧ g < hi ∧ Row w g zs)
theorem Res.le (h : Res lo hi w A zs) : hi ≤ w.heap.size := h.1
theorem Res.new (h : Res lo hi w A zs) (k : New w w1) : Res lo hi w1 A zs :=
  ⟨Nat.le_trans h.1 k.le, fun hz => by obtain ⟨g, e, h1, h2, hR⟩ := h.2 hz; exact ⟨g, e, h1, h2, hR.new k⟩⟩
theorem Res.chg (h : Res lo hi w A zs) (k : Chg lo' hi' w w1) (hd : hi ≤ lo' ∨ hi' ≤ lo) : Res lo hi w1 A zs :=
  ⟨Nat.le_trans h.1 k.size, fun hz => by obtain ⟨g, e, h1, h2, hR⟩ := h.2 hz; exact ⟨g, e, h1, h2, hR.chg k (by omega)⟩⟩
theorem Res.ints (h : Res lo hi w A zs) (hn : zs.length = n) : Ints w A n zs := by
  subst hn
  refine ⟨rfl, fun hz => ?_⟩
  obtain ⟨g, rfl, _, _, hR⟩ := h.2 hz
  exact ⟨g, 0, rfl, hR.lt, fun i hi' => by simpa using hR.c i hi'⟩
theorem Res.of_row (h : Row w1 g zs) (hg : lo ≤ g) : Res lo w1.heap.size w1 (some ⟨g, 0, none⟩) zs := ⟨Nat.le_refl _, fun _ => ⟨g, rfl, hg, h.lt, h⟩⟩
theorem Res.nil (lo : Nat) (w : World) (A : Option Addr) : Res lo w.heap.size w A [] := ⟨Nat.le_refl _, fun h => absurd h (by simp)⟩
end
/-- An answer that is a row of its own. -/
def Ans (w : World) (zs : List Int) (e : Ending) (w' : World) : Prop :=
  ∃ (A : Option Addr) (n c : Nat), e = .returned (.slice A n c) ∧ zs.length = n ∧ Res w.heap.size w'.heap.size w' A zs ∧ New w w'
theorem Ans.row {w w' : World} {g n c : Nat} {zs : List Int} {e : Ending} (he : e = .returned (.slice (some ⟨g, 0, none⟩) n c)) (hn : zs.length = n) (hg : w.heap.size ≤ g) (h : Row w' g zs) (hN : New w w') : Ans w zs e w' :=
  ⟨_, n, c, he, hn, Res.of_row h hg, hN⟩
theorem Ans.none_ {w w' : World} {e : Ending} (he : e = .returned (.slice none 0 0)) (hN : New w w') : Ans w [] e w' := ⟨_, 0, 0, he, rfl, Res.nil _ _ _, hN⟩
theorem eqRes_any (A B : Option Addr) (n m c d : Nat) (xs ys : List Int) (hn : n ≤ 1048576) (hm : m ≤ 1048576) (w : World) (hx : Ints w A n xs) (hy : Ints w B m ys) (he : xs = ys) :
    Calls Try.prog 28 #[.slice A n c, .slice B m d] w fun e w' => e = .returned (.bool true) ∧ New w w' := by
  have h := eqIntS_any A B n m c d xs ys hn hm w hx hy
  rw [decide_eq_true he] at h
  exact h
set_option maxHeartbeats 400000 in
theorem markNone_any (A : Option Addr) (c : Nat) (k0 : Int) (w : World) : Calls Try.prog 29 #[.slice A 0 c, .int .i64 k0] w fun e w' => e = .returned (.int .i64 k0) ∧ w = w' := by
  go_enter Try.func29, Try.ntmps29
  go_wp2
  go_loopw [1, 5] (fun s i wr => s = .int .i64 k0 ∧ i = .int .i64 0 ∧ wr = w) (fun _ _ _ => 0)
  case atStart => exact ⟨rfl, rfl, rfl⟩
  case round =>
    obtain ⟨rfl, rfl, rfl⟩ := hrel
    go_wp2
    go_ret
    exact ⟨rfl, rfl⟩
theorem markRes_any (lo hi : Nat) (A : Option Addr) (n c : Nat) (zs : List Int) (k0 : Int) (h0 : 0 ≤ k0) (h1 : k0 ≤ 100000000) (hn : n ≤ 1048576) (hz : zs.length = n) (w : World) (hx : Res lo hi w A zs) :
    Calls Try.prog 29 #[.slice A n c, .int .i64 k0] w fun e w' => e = .returned (.int .i64 (k0 + (n : Int))) ∧ Res lo hi w' A (marks k0 n) ∧ Chg lo hi w w' := by
  rcases Nat.eq_zero_or_pos n with rfl | hp
  · refine (markNone_any A c k0 w).mono ?_
    rintro e w' ⟨rfl, rfl⟩
    exact ⟨by simp, ⟨hx.1, fun h => absurd h (by simp [marks])⟩, Chg.refl _ _ _⟩
  · obtain ⟨g, rfl, g1, g2, hR⟩ := hx.2 (by omega)
    refine (markIntS_any g n c zs k0 h0 h1 hn hz w hR).mono ?_
    rintro e w' ⟨rfl, hR', hG⟩
    exact ⟨rfl, ⟨Nat.le_trans hx.1 hG.size, fun _ => ⟨g, rfl, g1, g2, hR'⟩⟩, Chg.of_grown hG g1 g2⟩
theorem heldRes_any (lo hi : Nat) (A : Option Addr) (n c : Nat) (k0 : Int) (h0 : 0 ≤ k0) (h1 : k0 ≤ 100000000) (hn : n ≤ 1048576) (w : World) (hx : Res lo hi w A (marks k0 n)) :
    Calls Try.prog 30 #[.slice A n c, .int .i64 k0] w fun e w' => e = .returned (.int .i64 (k0 + (n : Int))) ∧ w = w' :=
  heldIntS_any A n c k0 h0 h1 hn w (hx.ints (marks_len k0 n))
end Go.Proofs.Ytecnhjofgkhlnaa
