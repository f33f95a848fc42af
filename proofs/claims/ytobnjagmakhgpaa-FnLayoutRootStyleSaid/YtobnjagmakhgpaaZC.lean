/- Parts that belong together: Reader, App, Ints2. Conditions: as each part says. -/
import Derived.Test.YtobnjagmakhgpaaProg
import Derived.Test.YtobnjagmakhgpaaZA
import Derived.Deep.QuietTactic
import Derived.BigQuiet
import Derived.Laws.BitsAllLaws
import Derived.Laws.BitsLemmas
import Derived.Maps.AppendAt
import Derived.OwnWalk
import Derived.ArgAppend
/- The source of drawn numbers: what a reader holds, and that each draw gives a number of its range and moves the reader on by one. Conditions: the reader's bytes lie in another block; fewer than 1000000 draws. -/
namespace Go.Proofs.Ytobnjagmakhgpaa
open Go.RowKit

/-- A reader in block a: the bytes (m of them, from A on) and the place p. -/
structure Rdr (w : World) (a : Nat) (A : Option Addr) (m p : Nat) : Prop where
  s : ∃ c, w.cell? ⟨a, 0, none⟩ = some (.slice A m c)
  pos : w.cell? ⟨a, 1, none⟩ = some (.int .i64 p)
  fz : w.frozen? ⟨a, 1, none⟩ = false
  b : ∀ i, i < m → ∃ (b0 off v : Nat), A = some ⟨b0, off, none⟩ ∧ b0 < a ∧ v < 256 ∧ w.cell? ⟨b0, off + i, none⟩ = some (.int .u8 v)

/-- The reader behind a draw. -/
theorem Rdr.step {w : World} {a : Nat} {A : Option Addr} {m p : Nat} (h : Rdr w a A m p) : Rdr (w.setCell ⟨a, 1, none⟩ (.int .i64 ((p : Int) + 1))) a A m (p + 1) := by
  obtain ⟨⟨c, h1⟩, h2, h3, h4⟩ := h
  refine ⟨⟨c, ?_⟩, ?_, by simpa [go_sem] using h3, fun i hi => ?_⟩
  · rw [World.cell?_setCell_other _ _ _ _ (by simp)]; exact h1
  · simp [go_sem, h2]
  · obtain ⟨b0, off, v, e1, e2, e3, e4⟩ := h4 i hi
    exact ⟨b0, off, v, e1, e2, e3, by rw [World.cell?_setCell_other _ _ _ _ (fun e => Nat.ne_of_lt e2 (congrArg Addr.block e).symm)]; exact e4⟩
theorem Rdr.drewN {w : World} {a : Nat} {A : Option Addr} {m p : Nat} (h : Rdr w a A m p) (k : Nat) : Rdr (w.drewN k) a A m p := ⟨h.s, h.pos, h.fz, h.b⟩
theorem Rdr.drew {w : World} {a : Nat} {A : Option Addr} {m p : Nat} (h : Rdr w a A m p) : Rdr w.drew a A m p := ⟨h.s, h.pos, h.fz, h.b⟩

/-- The reader in a world with new blocks. -/
theorem Rdr.new {w w' : World} {a : Nat} {A : Option Addr} {m p : Nat} (h : Rdr w a A m p) (hN : New w w') : Rdr w' a A m p := by
  have hlt : a < w.heap.size := World.block_lt_of_cell? w ⟨a, 1, none⟩ h.pos
  obtain ⟨⟨c, h1⟩, h2, h3, h4⟩ := h
  refine ⟨⟨c, (hN.cells a 0 hlt).trans h1⟩, (hN.cells a 1 hlt).trans h2, (hN.marks a 1 hlt).trans h3, fun i hi => ?_⟩
  obtain ⟨b0, off, v, e1, e2, e3, e4⟩ := h4 i hi
  exact ⟨b0, off, v, e1, e2, e3, (hN.cells b0 _ (by omega)).trans e4⟩
/-- The reader behind a store into a later block. -/
theorem Rdr.set {w : World} {a : Nat} {A : Option Addr} {m p : Nat} (h : Rdr w a A m p) {q : Addr} (hq : a < q.block) (u : Value) : Rdr (w.setCell q u) a A m p := by
  obtain ⟨⟨c, h1⟩, h2, h3, h4⟩ := h
  have k : ∀ b o, b ≤ a → (w.setCell q u).cell? ⟨b, o, none⟩ = w.cell? ⟨b, o, none⟩ := fun b o hb => World.cell?_of_block (Below.heap_setCell _ _ _ _ (by simp; omega))
  refine ⟨⟨c, (k _ _ (Nat.le_refl _)).trans h1⟩, (k _ _ (Nat.le_refl _)).trans h2, (World.frozen?_of_block (w := w) (Below.heap_setCell _ _ _ _ (by simp; omega))).trans h3, fun i hi => ?_⟩
  obtain ⟨b0, off, v, e1, e2, e3, e4⟩ := h4 i hi
  exact ⟨b0, off, v, e1, e2, e3, (k _ _ (by omega)).trans e4⟩

/-! Only the reader's block has turned, and new blocks are there. -/
section
variable {w0 w1 w2 : World} {a : Nat}
theorem only_refl : w0.grownBy w0 (some a) := World.grownBy.refl _ _
theorem only_trans (h : w0.grownBy w1 (some a)) (k : w1.grownBy w2 (some a)) : w0.grownBy w2 (some a) :=
  ⟨k.os.trans h.os, k.tape.trans h.tape, k.output.trans h.output, Nat.le_trans h.size k.size, fun i hi hne => (k.block i (Nat.lt_of_lt_of_le hi h.size) hne).trans (h.block i hi hne)⟩
theorem only_new (h : w0.grownBy w1 (some a)) (k : New w1 w2) : w0.grownBy w2 (some a) :=
  ⟨k.os.trans h.os, k.tape.trans h.tape, k.output.trans h.output, Nat.le_trans h.size k.size, fun i hi hne => (k.block i (Nat.lt_of_lt_of_le hi h.size)).trans (h.block i hi hne)⟩
theorem only_alloc (h : w0.grownBy w1 (some a)) (o : Obj) : w0.grownBy (w1.alloc o) (some a) := only_new h ((New.refl _).alloc o)
theorem only_drew (h : w0.grownBy w1 (some a)) : w0.grownBy w1.drew (some a) := ⟨h.os, h.tape, h.output, h.size, h.block⟩
theorem only_set (h : w0.grownBy w1 (some a)) {q : Addr} (hq : w0.heap.size ≤ q.block) (u : Value) : w0.grownBy (w1.setCell q u) (some a) :=
  ⟨h.os, h.tape, h.output, by simpa [World.setCell] using h.size, fun i hi hne => (Below.heap_setCell _ _ _ _ (by omega)).trans (h.block i hi hne)⟩
theorem only_cells (h : w0.grownBy w1 (some a)) : ∀ k o, k < w0.heap.size → k ≠ a → w1.cell? ⟨k, o, none⟩ = w0.cell? ⟨k, o, none⟩ := fun k o hk hne => World.cell?_of_block (w := w0) (h.block k hk (by simpa using hne))
theorem only_marks (h : w0.grownBy w1 (some a)) : ∀ k o, k < w0.heap.size → k ≠ a → w1.frozen? ⟨k, o, none⟩ = w0.frozen? ⟨k, o, none⟩ := fun k o hk hne => World.frozen?_of_block (w := w0) (h.block k hk (by simpa using hne))
/-- Where the reader's block is itself new, all that is old is as it was. -/
theorem new_only {w : World} (h : New w w0) (ha : w.heap.size ≤ a) (k : w0.grownBy w1 (some a)) : New w w1 :=
  ⟨k.os.trans h.os, k.tape.trans h.tape, k.output.trans h.output, Nat.le_trans h.size k.size, fun i hi => (k.block i (Nat.lt_of_lt_of_le hi h.size) (by simp; omega)).trans (h.block i hi)⟩
end

theorem xor_bd (x y : Int) (hx : 0 ≤ x ∧ x < 4611686018427387904) (hy : 0 ≤ y ∧ y < 4611686018427387904) : 0 ≤ bits .xor .i64 x y ∧ bits .xor .i64 x y ≤ 9223372036854775807 := by
  obtain ⟨a, rfl⟩ := Int.eq_ofNat_of_zero_le hx.1
  obtain ⟨b, rfl⟩ := Int.eq_ofNat_of_zero_le hy.1
  have ofN : ∀ n : Nat, n < 9223372036854775808 → (BitVec.ofInt 64 (n : Int)).toNat = n := fun n hn => by
    rw [BitVec.ofInt_natCast, BitVec.toNat_ofNat]; exact Nat.mod_eq_of_lt (by omega)
  have hz : a ^^^ b < 2 ^ 63 := Nat.xor_lt_two_pow (by omega) (by omega)
  have e : bits .xor .i64 (a : Int) (b : Int) = ((a ^^^ b : Nat) : Int) := by
    show IntKind.i64.wrap ((BitVec.ofInt 64 (a : Int) ^^^ BitVec.ofInt 64 (b : Int)).toNat : Int) = _
    rw [BitVec.toNat_xor, ofN a (by omega), ofN b (by omega), IntKind.wrap_i64]
    omega
  rw [e]; omega

/-- What a draw leaves: a number of its range; the reader one place on; nothing else turned. -/
def Picked (n : Int) (w : World) (a : Nat) (A : Option Addr) (m p : Nat) (e : Ending) (w' : World) : Prop :=
  ∃ v : Int, e = .returned (.int .i64 v) ∧ 0 ≤ v ∧ (1 ≤ n → v < n) ∧ Rdr w' a A m (p + 1) ∧ w.grownBy w' (some a)
theorem by_set {w : World} {a : Nat} (u : Value) : w.grownBy (w.setCell ⟨a, 1, none⟩ u) (some a) :=
  ⟨rfl, rfl, rfl, by simp [World.setCell], fun k _ hne => Below.heap_setCell _ _ _ _ (fun e => hne (by rw [e]))⟩
theorem by_drewN {w w' : World} {r : Option Nat} (h : w.grownBy w' r) (k : Nat) : w.grownBy (w'.drewN k) r := ⟨h.os, h.tape, h.output, h.size, h.block⟩

set_option maxHeartbeats 400000 in
theorem pick_low (n : Int) (hn : n < 1) (a : Nat) (A : Option Addr) (m p : Nat) (hp : p ≤ 1000000) (w : World) (h : Rdr w a A m p) :
    Calls Try.prog 58 #[.pointer (some ⟨a, 0, none⟩), .int .i64 n] w (Picked n w a A m p) := by
  have hr := h.step
  have HR := Lib.hid hr
  obtain ⟨⟨c, h1⟩, h2, h3, h4⟩ := h
  clear h4 hr
  go_enter Try.func58, Try.ntmps58
  go_wp2
  go_ret
  exact ⟨0, rfl, by omega, fun _ => by omega, HR.out, by_set _⟩

set_option maxHeartbeats 400000 in
theorem pick_none (n : Int) (hn : 1 ≤ n) (a : Nat) (A : Option Addr) (p : Nat) (hp : p ≤ 1000000) (w : World) (h : Rdr w a A 0 p) :
    Calls Try.prog 58 #[.pointer (some ⟨a, 0, none⟩), .int .i64 n] w (Picked n w a A 0 p) := by
  have hr := h.step
  have HR := Lib.hid hr
  obtain ⟨⟨c, h1⟩, h2, h3, h4⟩ := h
  clear h4 hr
  go_enter Try.func58, Try.ntmps58
  go_wp2
  go_ret
  exact ⟨0, rfl, by omega, fun _ => by omega, HR.out, by_set _⟩

set_option maxHeartbeats 800000 in
theorem pick_in (n : Int) (hn : 1 ≤ n) (a : Nat) (A : Option Addr) (m p : Nat) (hp : p ≤ 1000000) (_hm : m ≤ 2000) (hlt : p < m) (w : World) (h : Rdr w a A m p) :
    Calls Try.prog 58 #[.pointer (some ⟨a, 0, none⟩), .int .i64 n] w (Picked n w a A m p) := by
  have hr := h.step
  have HR := Lib.hid hr
  obtain ⟨⟨c, h1⟩, h2, h3, h4⟩ := h
  obtain ⟨b0, off, v, rfl, e2', e3, e4⟩ := h4 p hlt
  have e2 := Nat.ne_of_lt e2'
  clear e2'
  clear h4 hr
  have hne : ((m : Int) == 0) = false := by simp; omega
  go_enter Try.func58, Try.ntmps58
  go_wp2
  go_ret
  exact ⟨_, rfl, Int.emod_nonneg _ (by omega), fun _ => Int.emod_lt_of_pos _ (by omega), HR.out, by_set _⟩

set_option maxHeartbeats 1600000 in
theorem pick_out (n : Int) (hn : 1 ≤ n) (a : Nat) (A : Option Addr) (m p : Nat) (hp : p ≤ 1000000) (hm : m ≤ 2000) (h0 : 0 < m) (hge : m ≤ p) (w : World) (h : Rdr w a A m p) :
    Calls Try.prog 58 #[.pointer (some ⟨a, 0, none⟩), .int .i64 n] w (Picked n w a A m p) := by
  have hr := h.step
  have HR := Lib.hid hr
  obtain ⟨⟨c, h1⟩, h2, h3, h4⟩ := h
  obtain ⟨b0, off, v, rfl, e2', e3, e4⟩ := h4 (p % m) (Nat.mod_lt _ h0)
  have e2 := Nat.ne_of_lt e2'
  clear e2'
  obtain ⟨b1, off1, v1, ee, e5, e6, e7⟩ := h4 ((p * 7 + 3) % m) (Nat.mod_lt _ h0)
  simp only [Option.some.injEq, Addr.mk.injEq, and_true] at ee
  obtain ⟨rfl, rfl⟩ := ee
  clear h4 hr e5
  have hne : ((m : Int) == 0) = false := by simp; omega
  have i0 : (0 : Int) ≤ (p : Int) % (m : Int) := Int.emod_nonneg _ (by omega)
  have i1 : (p : Int) % (m : Int) < (m : Int) := Int.emod_lt_of_pos _ (by omega)
  have i2 : (0 : Int) ≤ ((p : Int) * 7 + 3) % (m : Int) := Int.emod_nonneg _ (by omega)
  have i3 : ((p : Int) * 7 + 3) % (m : Int) < (m : Int) := Int.emod_lt_of_pos _ (by omega)
  have q0 : (0 : Int) ≤ (p : Int) / (m : Int) := Int.ediv_nonneg (by omega) (by omega)
  have q1 : (p : Int) / (m : Int) ≤ (p : Int) := Int.ediv_le_self _ (by omega)
  go_enter Try.func58, Try.ntmps58
  go_wp2
  go_quiet (fail)
  go_wp2
  have xb := xor_bd ((v : Int) * 131 + (v1 : Int) * 1117 + (p : Int) * 29 + (p : Int) / (m : Int) * 53) (((v : Int) * 131 + (v1 : Int) * 1117 + (p : Int) * 29 + (p : Int) / (m : Int) * 53) / 64) (by omega) (by omega)
  go_ret
  refine ⟨_, rfl, ?_, fun _ => ?_, HR.out.drewN nq, by_drewN (by_set _) nq⟩
  · rw [Int.tmod_eq_emod_of_nonneg xb.1]; exact Int.emod_nonneg _ (by omega)
  · rw [Int.tmod_eq_emod_of_nonneg xb.1]; exact Int.emod_lt_of_pos _ (by omega)

theorem pick_any (n : Int) (a : Nat) (A : Option Addr) (m p : Nat) (hp : p ≤ 1000000) (hm : m ≤ 2000) (w : World) (h : Rdr w a A m p) :
    Calls Try.prog 58 #[.pointer (some ⟨a, 0, none⟩), .int .i64 n] w (Picked n w a A m p) := by
  by_cases hn : n < 1
  · exact pick_low n hn a A m p hp w h
  rcases Nat.eq_zero_or_pos m with rfl | h0
  · exact pick_none n (by omega) a A p hp w h
  by_cases hlt : p < m
  · exact pick_in n (by omega) a A m p hp hm hlt w h
  · exact pick_out n (by omega) a A m p hp hm h0 (by omega) w h

/-- What a choice out of a list leaves. -/
def Chosen (zs : List Int) (w : World) (a : Nat) (A : Option Addr) (m p : Nat) (e : Ending) (w' : World) : Prop :=
  ∃ z : Int, e = .returned (.int .i64 z) ∧ z ∈ zs ∧ Rdr w' a A m (p + 1) ∧ w.grownBy w' (some a)

set_option maxHeartbeats 400000 in
theorem one_any (zs : List Int) (hz : 1 ≤ zs.length) (hz' : zs.length ≤ 100) (g c a : Nat) (A : Option Addr) (m p : Nat) (hp : p ≤ 1000000) (hm : m ≤ 2000) (w : World) (h : Rdr w a A m p)
    (hga : g ≠ a) (hg : g < w.heap.size) (hl : ∀ i, i < zs.length → w.cell? ⟨g, i, none⟩ = some (.int .i64 (zs.getD i 0))) :
    Calls Try.prog 70 #[.pointer (some ⟨a, 0, none⟩), .slice (some ⟨g, 0, none⟩) zs.length c] w (Chosen zs w a A m p) := by
  have HL := Lib.hid hl
  have HR := Lib.hid h
  clear hl h
  go_enter Try.func70, Try.ntmps70
  go_wp2_with fail
  refine (pick_any _ a A m p hp hm _ HR.out).mono ?_
  rintro e w1 ⟨v, rfl, v0, v1, hR1, hG1⟩
  have hv := v1 (by omega)
  clear v1
  obtain ⟨i, rfl⟩ := Int.eq_ofNat_of_zero_le v0
  have hi : i < zs.length := by omega
  have HR1 := Lib.hid hR1; have HG1 := Lib.hid hG1
  have hc1 : w1.cell? ⟨g, i, none⟩ = some (.int .i64 (zs.getD i 0)) := (World.cell?_of_block (hG1.block g hg (by simpa using hga))).trans (HL.out i hi)
  clear hR1 hG1
  go_wp2
  go_ret
  exact ⟨zs[i], rfl, List.getElem_mem hi, HR1.out, HG1.out⟩

/-- A literal list of numbers, just laid. -/
theorem lit_cells (zs : List Int) (w : World) (t : TypeId) : ∀ i, i < zs.length → (w.alloc (.cells (zs.map (Value.int .i64)).toArray t)).cell? ⟨w.heap.size, i, none⟩ = some (.int .i64 (zs.getD i 0)) := fun i hi => by
  have e : (w.alloc (.cells (zs.map (Value.int .i64)).toArray t)).cell? ⟨w.heap.size, i, none⟩ = (zs.map (Value.int .i64)).toArray[i]? := World.cell?_alloc_new w _ t i
  rw [e]
  simp [hi]

/-- A slice of bytes that lies in the old memory. -/
def Bytes (w : World) (A : Option Addr) (m : Nat) : Prop := ∀ i, i < m → ∃ (b0 off v : Nat), A = some ⟨b0, off, none⟩ ∧ b0 < w.heap.size ∧ v < 256 ∧ w.cell? ⟨b0, off + i, none⟩ = some (.int .u8 v)

theorem Bytes.new {w w' : World} {A : Option Addr} {m : Nat} (h : Bytes w A m) (hN : New w w') : Bytes w' A m := fun i hi => by
  obtain ⟨b0, off, v, e1, e2, e3, e4⟩ := h i hi
  exact ⟨b0, off, v, e1, Nat.lt_of_lt_of_le e2 hN.le, e3, (hN.cells b0 _ e2).trans e4⟩

set_option maxHeartbeats 400000 in
theorem newReader_any (A : Option Addr) (n c : Nat) (hn : n ≤ maxLen) (hnc : n ≤ c) (w : World) (hb : Bytes w A n) :
    Calls Try.prog 35 #[.slice A n c] w fun e w' => e = .returned (.pointer (some ⟨w.heap.size, 0, none⟩)) ∧ (∃ m, m ≤ 2000 ∧ Rdr w' w.heap.size A m 0) ∧ New w w' ∧ w.heap.size < w'.heap.size := by
  have fin : ∀ (m c' : Nat), m ≤ n → Rdr (w.alloc (.cells #[.slice A m c', .int .i64 0] 96)) w.heap.size A m 0 := fun m c' hm => by
    refine ⟨⟨c', by simp [go_sem]⟩, by simp [go_sem], by simp [go_sem], fun i hi => ?_⟩
    obtain ⟨b0, off, v, e1, e2, e3, e4⟩ := hb i (by omega)
    exact ⟨b0, off, v, e1, e2, e3, by rw [World.cell?_alloc_lt _ _ _ (by exact e2)]; exact e4⟩
  have FIN := Lib.hid fin
  clear hb fin
  unfold maxLen at hn
  by_cases h : 2000 < n
  · go_enter Try.func35, Try.ntmps35
    go_wp2
    go_ret
    exact ⟨rfl, ⟨2000, by omega, FIN.out 2000 _ (by omega)⟩, by (repeat (first | exact New.refl _ | assumption | refine New.alloc ?_ _ | refine New.drew ?_ | refine New.drewN ?_ _ | refine New.setCell ?_ (by first | omega | (simp; omega) | (simp; done)) _ | refine New.trans ?_ (by assumption))), by simp⟩
  · go_enter Try.func35, Try.ntmps35
    go_wp2
    go_ret
    exact ⟨rfl, ⟨n, by omega, FIN.out n _ (by omega)⟩, by (repeat (first | exact New.refl _ | assumption | refine New.alloc ?_ _ | refine New.drew ?_ | refine New.drewN ?_ _ | refine New.setCell ?_ (by first | omega | (simp; omega) | (simp; done)) _ | refine New.trans ?_ (by assumption))), by simp⟩

end Go.Proofs.Ytobnjagmakhgpaa

/- Lists of numbers that grow by append: what owning such a list means, and what each append leaves. Conditions: the list is short. -/
namespace Go.Proofs.Ytobnjagmakhgpaa
open Go.RowKit

/-- The slice value v owns the numbers zs, in a block from lo on. -/
def Own (lo : Nat) (w : World) (v : Value) (zs : List Int) : Prop := w.ownsRow lo 3 1 v zs.length (zs.map (Value.int .i64))
section
variable {lo : Nat} {w w' w0 : World} {v : Value} {zs : List Int}
theorem Own.form (h : Own lo w v zs) : (v = .slice none 0 0 ∧ zs = []) ∨ ∃ g c, v = .slice (some ⟨g, 0, none⟩) zs.length c ∧ lo ≤ g ∧ Row w g zs ∧ zs.length ≤ c ∧ v.ownBlock = some g := by
  rcases h.2 with ⟨hv, hn⟩ | ⟨g, cap, cur, hv, hg, hh, hc, hm, hs, ht⟩
  · exact .inl ⟨hv, List.eq_nil_of_length_eq_zero hn⟩
  · refine .inr ⟨g, cap, hv, hg, ?_, hc, by rw [hv]; rfl⟩
    have hlt : g < w.heap.size := by
      rcases Nat.lt_or_ge g w.heap.size with h1 | h1
      · exact h1
      · rw [Array.getElem?_eq_none h1] at hh; cases hh
    have hcell : ∀ i, w.cell? ⟨g, i, none⟩ = cur[i]? := fun i => cell_of_row w g i cur 3 (0, 0) hh
    refine ⟨hlt, fun i hi => ?_, fun i _ => by simp [World.frozen?, hh]⟩
    rw [hcell i]
    have e : cur[i]? = (cur.toList.take (zs.length * 1))[i]? := by
      rw [List.getElem?_take_of_lt (by omega)]
      simp
    rw [e, ht]
    simp [hi]
theorem Own.res (h : Own lo w v zs) : ∃ A c, v = .slice A zs.length c ∧ zs.length ≤ c ∧ Res lo w.heap.size w A zs := by
  rcases h.form with ⟨rfl, rfl⟩ | ⟨g, c, rfl, hg, hR, hc, _⟩
  · exact ⟨none, 0, rfl, Nat.le_refl _, Res.nil _ _ _⟩
  · exact ⟨_, c, rfl, hc, Res.of_row hR hg⟩
theorem Own.below (h : Own lo w v zs) {g : Nat} (hg : v.ownBlock = some g) : lo ≤ g := by
  rcases h.form with ⟨rfl, rfl⟩ | ⟨g', c, rfl, hg', _, _, e⟩
  · simp [Value.ownBlock] at hg
  · rw [e] at hg; have := Option.some.inj hg; omega
theorem Own.kept (h : Own lo w v zs) {r : Option Nat} (k : w.grownBy w' r) (hr : ∀ g, r = some g → g < lo) : Own lo w' v zs := by
  refine ⟨h.1, ?_⟩
  rcases h.2 with hn | ⟨g, cap, cur, hv, hg, hh, hc, hm, hs, ht⟩
  · exact .inl hn
  · have hlt : g < w.heap.size := by
      rcases Nat.lt_or_ge g w.heap.size with h1 | h1
      · exact h1
      · rw [Array.getElem?_eq_none h1] at hh; cases hh
    exact .inr ⟨g, cap, cur, hv, hg, (k.block g hlt (fun e => by have := hr g e.symm; omega)).trans hh, hc, hm, hs, ht⟩
theorem New.grown (h : New w w') (r : Option Nat) : w.grownBy w' r := ⟨h.os, h.tape, h.output, h.size, fun k hk _ => h.block k hk⟩
theorem Own.new (h : Own lo w v zs) (k : New w w') : Own lo w' v zs := h.kept (k.grown none) (fun _ e => by cases e)
theorem Own.alloc (h : Own lo w v zs) (o : Obj) : Own lo (w.alloc o) v zs := h.new ((New.refl _).alloc o)
theorem Own.drew (h : Own lo w v zs) : Own lo w.drew v zs := h
theorem Own.nil (lo : Nat) (w : World) : Own lo w (.slice none 0 0) [] := ⟨rfl, .inl ⟨rfl, rfl⟩⟩
theorem Own.empty (w : World) (c : Nat) (hl : lo ≤ w.heap.size) (hc : c = 0) : Own lo (w.alloc (.cells #[] 3)) (.slice (some ⟨w.heap.size, 0, none⟩) 0 c) [] := by
  subst hc
  exact ⟨rfl, .inr ⟨w.heap.size, 0, #[], rfl, hl, heap_alloc_new w _, Nat.le_refl _, Nat.zero_le _, rfl, rfl⟩⟩
/-- Where only an owned list of later blocks turned, elder things are as they were. -/
theorem new_own (h : New w0 w) (k : w.grownBy w' v.ownBlock) (ho : Own lo w v zs) (hl : w0.heap.size ≤ lo) : New w0 w' :=
  ⟨k.os.trans h.os, k.tape.trans h.tape, k.output.trans h.output, Nat.le_trans h.size k.size, fun i hi => (k.block i (Nat.lt_of_lt_of_le hi h.size) (fun e => by have := ho.below e.symm; omega)).trans (h.block i hi)⟩
theorem only_own {a : Nat} (h : w0.grownBy w (some a)) (k : w.grownBy w' v.ownBlock) (ho : Own lo w v zs) (hl : w0.heap.size ≤ lo) : w0.grownBy w' (some a) :=
  ⟨k.os.trans h.os, k.tape.trans h.tape, k.output.trans h.output, Nat.le_trans h.size k.size, fun i hi hne => (k.block i (Nat.lt_of_lt_of_le hi h.size) (fun e => by have := ho.below e.symm; omega)).trans (h.block i hi hne)⟩
theorem Rdr.grown {a : Nat} {A : Option Addr} {m p : Nat} (h : Rdr w a A m p) {r : Option Nat} (k : w.grownBy w' r) (hr : ∀ g, r = some g → a < g) : Rdr w' a A m p := by
  have hlt : a < w.heap.size := World.block_lt_of_cell? w ⟨a, 1, none⟩ h.pos
  obtain ⟨⟨c, h1⟩, h2, h3, h4⟩ := h
  have kb : ∀ b, b ≤ a → w'.heap[b]? = w.heap[b]? := fun b hb => k.block b (by omega) (fun e => by have := hr b e.symm; omega)
  have kc : ∀ b o, b ≤ a → w'.cell? ⟨b, o, none⟩ = w.cell? ⟨b, o, none⟩ := fun b o hb => World.cell?_of_block (kb b hb)
  refine ⟨⟨c, (kc _ _ (Nat.le_refl _)).trans h1⟩, (kc _ _ (Nat.le_refl _)).trans h2, (World.frozen?_of_block (w := w) (kb a (Nat.le_refl _))).trans h3, fun i hi => ?_⟩
  obtain ⟨b0, off, u, e1, e2, e3, e4⟩ := h4 i hi
  exact ⟨b0, off, u, e1, e2, e3, (kc _ _ (by omega)).trans e4⟩
theorem Rdr.own {a : Nat} {A : Option Addr} {m p : Nat} (h : Rdr w a A m p) (k : w.grownBy w' v.ownBlock) (ho : Own lo w v zs) (hl : a < lo) : Rdr w' a A m p :=
  h.grown k (fun _ e => by have := ho.below e; omega)
theorem Ints.own {A : Option Addr} {n B : Nat} {xs : List Int} (h : Ints w A n xs) (k : w.grownBy w' v.ownBlock) (ho : Own lo w v zs) (hB : ∀ b off, A = some ⟨b, off, none⟩ → b < B) (hl : B ≤ lo) : Ints w' A n xs :=
  ⟨h.len, fun hn => by
    obtain ⟨b, off, e, hb, hc⟩ := h.at_ hn
    refine ⟨b, off, e, Nat.lt_of_lt_of_le hb k.size, fun i hi => (World.cell?_of_block (k.block b hb (fun e' => ?_))).trans (hc i hi)⟩
    have h1 := ho.below e'.symm
    have h2 := hB b off e
    omega⟩
end
theorem info_int : (Try.prog.info? 3).map (fun i => (i.zero, i.size, i.bytes)) = some (some (.int .i64 0), 1, 8) := by kernel_rfl
/-- Numbers are appended, wherever they lie. -/
theorem run_app (w : World) (ty : TypeId) (lo : Nat) (v : Value) (zs : List Int) (hown : Own lo w v zs) (A : Option Addr) (m c : Nat) (xs : List Int) (hx : Ints w A m xs) (hn : zs.length + m ≤ 2000000) (hlo : lo ≤ w.heap.size) :
    ∃ v' w', (Builtin.append_ #[31, 31] ty #[v, .slice A m c]).run Try.prog w = .ok v' w' ∧ Own lo w' v' (zs ++ xs) ∧ w.grownBy w' v.ownBlock := by
  obtain ⟨i0, hi, hz0, hz1, hz2⟩ := info_parts info_int
  have hl := hx.len
  rcases A with _ | ad
  · have h0 : m = 0 := by
      rcases Nat.eq_zero_or_pos m with h | h
      · exact h
      · obtain ⟨b, off, e, _⟩ := hx.at_ h
        cases e
    subst h0
    obtain rfl : xs = [] := List.eq_nil_of_length_eq_zero hl
    refine ⟨v, w, ?_, by simpa using hown, World.grownBy.refl w _⟩
    rcases hown.2 with ⟨rfl, _⟩ | ⟨g, cap, cur, rfl, _, _, hnc, _⟩
    · simp [Builtin.append_, run_underlying Try.underlying31, sizeOf, typeInfo, hi, Builtin.lenOf, Builtin.firstCells]
    · simp [Builtin.append_, run_underlying Try.underlying31, sizeOf, typeInfo, hi, Builtin.lenOf, Builtin.firstCells, hnc, storeCells]
  · have each : ∀ j, j < xs.length → w.cell? (ad.add j) = some (.int .i64 (xs.getD j 0)) := fun j hj => by
      obtain ⟨b, off, e, hb, hc⟩ := hx.at_ (by omega)
      obtain rfl := Option.some.inj e
      rw [Go.WideShapes.add_plain]
      exact hc j (by omega)
    obtain ⟨v', w', hr, h2, h3, _, _⟩ := run_append_own_at (P := Try.prog) w lo 31 ty 3 i0 (.int .i64 0) 1 8 Try.underlying31 hi hz0 hz1 hz2 rfl (by decide) v zs.length (zs.map (Value.int .i64)) hown ad m c (xs.map (Value.int .i64)) (by simp [hl]) (fun j u hu => by
      have hj : j < xs.length := by
        rcases Nat.lt_or_ge j xs.length with h1 | h1
        · exact h1
        · rw [List.getElem?_eq_none (by simpa using h1)] at hu; cases hu
      have e : u = .int .i64 (xs.getD j 0) := by
        simp [hj] at hu ⊢
        exact hu.symm
      rw [e]
      exact each j hj) (fun u hu => by
      obtain ⟨z, _, rfl⟩ := List.mem_map.1 hu
      rfl) (by unfold maxLen; omega) (by omega) hlo
    refine ⟨v', w', hr, ?_, h3⟩
    unfold Own
    rw [List.length_append, List.map_append, hl]
    exact h2
theorem wp_app {w : World} {ops : Array Oper} {rest : List Oper} {o : Oper} {a : Act} {Q : Exit → Act → World → Prop} (hgd : o.guard = none) (s x : Operand)
    (ho : o.op = .call { callee := .builtin .append, args := #[s, x], argTypes := #[31, 31] }) (lo : Nat) (v : Value) (zs : List Int) (hs : a.eval s = v) (hown : Own lo w v zs)
    (A : Option Addr) (m c : Nat) (xs : List Int) (hx : a.eval x = .slice A m c) (hr : Ints w A m xs) (hn : zs.length + m ≤ 2000000) (hlo : lo ≤ w.heap.size)
    (h : ∀ v' w', Own lo w' v' (zs ++ xs) → w.grownBy w' v.ownBlock → wpList Try.prog ops Q rest (a.put o.dst v') w') : wpList Try.prog ops Q (o :: rest) a w :=
  wpList_plain hgd fun K hK => by
    obtain ⟨v', w', hrun, h2, h3⟩ := run_app w o.type lo v zs hown A m c xs hr hn hlo
    unfold Oper.wp execOp
    simp only [ho, resolve, invoke, builtin, Sem.run_bind, Sem.run_pure, Result.andThen_ok, List.map_toArray, List.map_cons, List.map_nil, hs, hx, hrun]
    exact hK _ _ (h v' w' h2 h3)
/-- One number, just laid in a block of its own. -/
theorem Ints.one (w : World) (z : Int) (t : TypeId) : Ints (w.alloc (.cells #[.int .i64 z] t)) (some ⟨w.heap.size, 0, none⟩) 1 [z] :=
  ⟨rfl, fun _ => ⟨w.heap.size, 0, rfl, by simp, fun i hi => by
    obtain rfl : i = 0 := by omega
    simp [go_sem]⟩⟩
/-- As before, and where the list lies behind it. -/
theorem run_app2 (w : World) (ty : TypeId) (lo : Nat) (v : Value) (zs : List Int) (hown : Own lo w v zs) (g : Nat) (z : Int) (hx : Ints w (some ⟨g, 0, none⟩) 1 [z]) (hn : zs.length + 1 ≤ 1000000) (hlo : lo ≤ w.heap.size) :
    ∃ v' w', (Builtin.append_ #[31, 31] ty #[v, .slice (some ⟨g, 0, none⟩) 1 1]).run Try.prog w = .ok v' w' ∧ Own lo w' v' (zs ++ [z]) ∧ w.grownBy w' v.ownBlock ∧ (v'.ownBlock = v.ownBlock ∨ v'.ownBlock = some w.heap.size) := by
  obtain ⟨i0, hi, hz0, hz1, hz2⟩ := info_parts info_int
  obtain ⟨b, off, e, hb, hc⟩ := hx.at_ (by omega)
  have hc0 := hc 0 (by omega)
  simp only [Option.some.injEq, Addr.mk.injEq, and_true] at e
  obtain ⟨rfl, rfl⟩ := e
  obtain ⟨v', w', hr, h2, h3, _, h5⟩ := run_append_own_at (P := Try.prog) w lo 31 ty 3 i0 (.int .i64 0) 1 8 Try.underlying31 hi hz0 hz1 hz2 rfl (by decide) v zs.length (zs.map (Value.int .i64)) hown ⟨g, 0, none⟩ 1 1 [.int .i64 z] rfl (fun j u hu => by
    match j, hu with
    | 0, hu => simp at hu; subst hu; simpa [Addr.add] using hc0) (fun u hu => by simp at hu; subst hu; rfl) (by unfold maxLen; omega) (by omega) hlo
  refine ⟨v', w', hr, ?_, h3, h5⟩
  unfold Own
  rw [List.length_append, List.map_append]
  exact h2
theorem wp_app2 {w : World} {ops : Array Oper} {rest : List Oper} {o : Oper} {a : Act} {Q : Exit → Act → World → Prop} (hgd : o.guard = none) (s x : Operand)
    (ho : o.op = .call { callee := .builtin .append, args := #[s, x], argTypes := #[31, 31] }) (lo : Nat) (v : Value) (zs : List Int) (hs : a.eval s = v) (hown : Own lo w v zs)
    (g : Nat) (z : Int) (hx : a.eval x = .slice (some ⟨g, 0, none⟩) 1 1) (hr : Ints w (some ⟨g, 0, none⟩) 1 [z]) (hn : zs.length + 1 ≤ 1000000) (hlo : lo ≤ w.heap.size)
    (h : ∀ v' w', Own lo w' v' (zs ++ [z]) → w.grownBy w' v.ownBlock → (v'.ownBlock = v.ownBlock ∨ v'.ownBlock = some w.heap.size) → wpList Try.prog ops Q rest (a.put o.dst v') w') : wpList Try.prog ops Q (o :: rest) a w :=
  wpList_plain hgd fun K hK => by
    obtain ⟨v', w', hrun, h2, h3, h4⟩ := run_app2 w o.type lo v zs hown g z hr hn hlo
    unfold Oper.wp execOp
    simp only [ho, resolve, invoke, builtin, Sem.run_bind, Sem.run_pure, Result.andThen_ok, List.map_toArray, List.map_cons, List.map_nil, hs, hx, hrun]
    exact hK _ _ (h v' w' h2 h3 h4)
/-- A full row grows: the numbers go into a new block. -/
theorem wp_grow {w : World} {ops : Array Oper} {rest : List Oper} {o : Oper} {a : Act} {Q : Exit → Act → World → Prop} (hgd : o.guard = none) (s x : Operand)
    (ho : o.op = .call { callee := .builtin .append, args := #[s, x], argTypes := #[31, 31] }) (g0 n : Nat) (zs : List Int) (hs : a.eval s = .slice (some ⟨g0, 0, none⟩) n n) (hz : Ints w (some ⟨g0, 0, none⟩) n zs)
    (g : Nat) (z : Int) (hx : a.eval x = .slice (some ⟨g, 0, none⟩) 1 1) (hr : Ints w (some ⟨g, 0, none⟩) 1 [z]) (hn : n ≤ 100000)
    (h : ∀ v' w', Own w.heap.size w' v' (zs ++ [z]) → New w w' → wpList Try.prog ops Q rest (a.put o.dst v') w') : wpList Try.prog ops Q (o :: rest) a w := by
  obtain ⟨i0, hi, hz0, hz1, hz2⟩ := info_parts info_int
  obtain ⟨b, off, e, hb, hc⟩ := hr.at_ (by omega)
  have hc0 := hc 0 (by omega)
  simp only [Option.some.injEq, Addr.mk.injEq, and_true] at e
  obtain ⟨rfl, rfl⟩ := e
  refine wpList_append_grows (P := Try.prog) w hgd s x 31 ho 3 i0 (.int .i64 0) 1 8 Try.underlying31 hi hz0 hz1 hz2 rfl (by decide) (some ⟨g0, 0, none⟩) n n (zs.map (Value.int .i64)) hs (fun h => by cases h) (by simp [hz.len]) (fun b hb j u hu => by
    obtain rfl := Option.some.inj hb
    have hj : j < zs.length := by
      rcases Nat.lt_or_ge j zs.length with h1 | h1
      · exact h1
      · rw [List.getElem?_eq_none (by simpa using h1)] at hu; cases hu
    obtain ⟨b, off, e, _, hc⟩ := hz.at_ (by have := hz.len; omega)
    simp only [Option.some.injEq, Addr.mk.injEq, and_true] at e
    obtain ⟨rfl, rfl⟩ := e
    have e : u = .int .i64 (zs.getD j 0) := by
      simp [hj] at hu ⊢
      exact hu.symm
    rw [e, Go.WideShapes.add_plain]
    exact hc j (by have := hz.len; omega)) ⟨g, 0, none⟩ 1 1 [.int .i64 z] hx rfl (fun j u hu => by
    match j, hu with
    | 0, hu => simp at hu; subst hu; simpa [Addr.add] using hc0) (fun u hu => by simp at hu; subst hu; rfl) (by omega) (by unfold maxLen; omega) (by omega) ?_
  intro v' w' h1 h2
  refine h v' w' ?_ ⟨h2.os, h2.tape, h2.output, h2.size, fun k hk => h2.block k hk (by simp)⟩
  unfold Own
  rw [List.length_append, List.map_append, hz.len]
  exact h1
theorem Ints.keep {w w' : World} {A : Option Addr} {n : Nat} {xs : List Int} {r : Option Nat} (h : Ints w A n xs) (k : w.grownBy w' r) (hB : ∀ b off, A = some ⟨b, off, none⟩ → r ≠ some b) : Ints w' A n xs :=
  ⟨h.len, fun hn => by
    obtain ⟨b, off, e, hb, hc⟩ := h.at_ hn
    exact ⟨b, off, e, Nat.lt_of_lt_of_le hb k.size, fun i hi => (World.cell?_of_block (k.block b hb (fun e' => hB b off e e'.symm))).trans (hc i hi)⟩⟩
theorem Ints.cell_ {w : World} {b off n k : Nat} {xs : List Int} (h : Ints w (some ⟨b, off, none⟩) n xs) (hk : k < n) : w.cell? ⟨b, off + k, none⟩ = some (.int .i64 (xs.getD k 0)) := by
  obtain ⟨b', off', e, _, hc⟩ := h.at_ (by omega)
  simp only [Option.some.injEq, Addr.mk.injEq, and_true] at e
  obtain ⟨rfl, rfl⟩ := e
  exact hc k hk
set_option maxHeartbeats 1000000 in
theorem copyInts_any (A : Option Addr) (n c : Nat) (xs : List Int) (hn : n ≤ 1000) (w : World) (hx : Ints w A n xs) :
    Calls Try.prog 106 #[.slice A n c] w fun e w' => ∃ v, e = .returned v ∧ Own w.heap.size w' v xs ∧ New w w' := by
  have HX := Lib.hid hx
  clear hx
  go_enter Try.func106, Try.ntmps106
  go_wp2_with (at_builtin; refine wp_app rfl _ _ rfl w.heap.size _ [] rfl (Own.empty w 0 (Nat.le_refl _) rfl) A n c xs rfl (HX.out.new ((New.refl _).alloc _)) (by simp; omega) (by simp) ?_; intro v' w' ho hg)
  go_ret
  exact ⟨v', rfl, by simpa using ho, new_own (New.alloc (New.refl _) _) hg (Own.empty w 0 (Nat.le_refl _) rfl) (Nat.le_refl _)⟩
end Go.Proofs.Ytobnjagmakhgpaa

/- Lists of whole numbers in a range: the range tests of the program and of the reference. Conditions: the slice can be read. -/
namespace Go.Proofs.Ytobnjagmakhgpaa
open Go.RowKit

/-- All numbers of a list are in a range. -/
def allB (lo hi : Int) (xs : List Int) : Bool := decide (∀ z ∈ xs, lo ≤ z ∧ z ≤ hi)
theorem allB_iff {lo hi : Int} {xs : List Int} : allB lo hi xs = true ↔ ∀ z ∈ xs, lo ≤ z ∧ z ≤ hi := by unfold allB; simp
theorem allB_no {lo hi : Int} {xs : List Int} {k : Nat} (hk : k < xs.length) (h : ¬ (lo ≤ xs.getD k 0 ∧ xs.getD k 0 ≤ hi)) : allB lo hi xs = false := by
  rw [Bool.eq_false_iff]; intro h'
  have e : xs.getD k 0 = xs[k] := by simp [hk]
  exact h (e ▸ allB_iff.1 h' _ (List.getElem_mem hk))
theorem allB_step {lo hi : Int} {xs : List Int} {k : Nat} (hk : k < xs.length) (h : ∀ z ∈ xs.take k, lo ≤ z ∧ z ≤ hi) (hz : lo ≤ xs.getD k 0 ∧ xs.getD k 0 ≤ hi) : ∀ z ∈ xs.take (k + 1), lo ≤ z ∧ z ≤ hi := by
  rw [take_snoc_i hk]; intro z hz'
  rcases List.mem_append.1 hz' with h1 | h1
  · exact h z h1
  · rw [List.mem_singleton.1 h1]; exact hz

set_option maxHeartbeats 400000 in
theorem within_any (n lo hi : Int) (w : World) :
    Calls Try.prog 39 #[.int .i64 n, .int .i64 lo, .int .i64 hi] w fun e w' => e = .returned (.bool (decide (lo ≤ n ∧ n ≤ hi))) ∧ w = w' := by
  go_enter Try.func39, Try.ntmps39
  go_wp2
  all_goals (go_ret; exact ⟨ret_bool (by rw [Bool.eq_iff_iff]; simp; omega), rfl⟩)

set_option maxHeartbeats 400000 in
theorem inRange_any (n lo hi : Int) (w : World) :
    Calls Try.prog 42 #[.int .i64 n, .int .i64 lo, .int .i64 hi] w fun e w' => e = .returned (.bool (decide (lo ≤ n ∧ n ≤ hi))) ∧ w = w' := by
  go_enter Try.func42, Try.ntmps42
  go_wp2
  all_goals (go_ret; exact ⟨ret_bool (by rw [Bool.eq_iff_iff]; simp; omega), rfl⟩)

set_option maxHeartbeats 1000000 in
theorem allIn_any (A : Option Addr) (n c : Nat) (xs : List Int) (lo hi : Int) (hn : n ≤ 1048576) (w : World) (hx : Ints w A n xs) :
    Calls Try.prog 92 #[.slice A n c, .int .i64 lo, .int .i64 hi] w fun e w' => e = .returned (.bool (allB lo hi xs)) ∧ w = w' := by
  have HX := Lib.hid hx
  have lx := hx.len
  have LX := Lib.hid lx
  clear hx lx
  go_enter Try.func92, Try.ntmps92
  go_wp2
  go_loop [7] (fun i => ∃ k : Nat, k ≤ n ∧ i = .int .i64 k ∧ Hid (∀ z ∈ xs.take k, lo ≤ z ∧ z ≤ hi)) (fun i => n - (intOf i).toNat)
  case atStart => exact ⟨0, Nat.zero_le _, rfl, Lib.hid (by simp)⟩
  case round =>
    obtain ⟨k, hk, rfl, HA⟩ := hrel
    by_cases hlt : k < n
    · obtain ⟨b, off, rfl, hb, hc⟩ := HX.out.at_ (by omega)
      have g := hc k hlt
      clear hc
      have k0 : (0 : Int) ≤ (k : Int) := by omega
      have k1 : (k : Int) < (n : Int) := by omega
      by_cases hz : lo ≤ xs.getD k 0 ∧ xs.getD k 0 ≤ hi
      · have HS := Lib.hid (allB_step (by rw [LX.out]; exact hlt) HA.out hz)
        generalize xs.getD k 0 = z at g hz
        obtain ⟨hz1, hz2⟩ := hz
        go_wp2_with (go_at_call 42; refine (inRange_any _ _ _ _).mono ?_; rintro e w' ⟨rfl, rfl⟩)
        go_round
        case rel => exact ⟨k + 1, by omega, by go_num, HS⟩
        case measure => simp [intOf]; omega
      · have HF := Lib.hid (allB_no (by rw [LX.out]; exact hlt) hz)
        generalize xs.getD k 0 = z at g hz
        have hzb : decide (lo ≤ z ∧ z ≤ hi) = false := by rw [decide_eq_false_iff_not]; exact hz
        have hzc : lo ≤ z → hi < z := fun h => by omega
        clear hz
        go_wp2_with (go_at_call 42; refine (inRange_any _ _ _ _).mono ?_; rw [hzb]; rintro e w' ⟨rfl, rfl⟩)
        go_ret
        exact ⟨ret_bool HF.out.symm, rfl⟩
    · have hk' : k = n := by omega
      subst hk'
      go_wp2
      go_ret
      exact ⟨ret_bool (by
        have h := HA.out
        rw [List.take_of_length_le (by rw [LX.out]; omega)] at h
        exact (allB_iff.2 h).symm), rfl⟩

end Go.Proofs.Ytobnjagmakhgpaa
