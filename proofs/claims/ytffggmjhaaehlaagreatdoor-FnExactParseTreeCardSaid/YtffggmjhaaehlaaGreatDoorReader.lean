/- The source of drawn numbers: what a reader holds, and that each draw gives a number of its range and moves the reader on by one. Conditions: the reader's bytes lie in another block; fewer than 1000000 draws. -/
import Derived.Test.YtffggmjhaaehlaaGreatDoorProg
import Derived.Test.YtffggmjhaaehlaaGreatDoorBase
import Derived.Deep.QuietTactic
import Derived.BigQuiet
import Derived.Laws.BitsAllLaws
import Derived.Laws.BitsLemmas
namespace Go.Proofs.YtffggmjhaaehlaaGreatDoor
open Go.RowKit

/-- A reader in block a: the bytes (m of them, from A on) and the place p. -/
structure Rdr (w : World) (a : Nat) (A : Option Addr) (m p : Nat) : Prop where
  s : ∃ c, w.cell? ⟨a, 0, none⟩ = some (.slice A m c)
  pos : w.cell? ⟨a, 1, none⟩ = some (.int .i64 p)
  fz : w.frozen? ⟨a, 1, none⟩ = false
  b : ∀ i, i < m → ∃ (b0 off v : Nat), A = some ⟨b0, off, none⟩ ∧ b0 < a ∧ v < 256 ∧ w.cell? ⟨b0, off + i, none⟩ = some (.int .u8 v)

/-- The reader behind a draw. -/
theorem Rdr.step {w : World} {a : Nat} {A : Option Addr} {m p : Nat} (h : Rdr w a A m p) : Rdr (w.setCell ⟨a, 1, none⟩ (.int .i64 ((p : Int) + 1))) a A m (p + 1) := by
  obtain ⟨⟨c, h1⟩, h2, h3, h4⟩ := h
  refine ⟨⟨c, ?_⟩, ?_, by simpa [go_sem] using h3, fun i hi => ?_⟩
  · rw [World.cell?_setCell_other _ _ _ _ (by simp)]; exact h1
  · simp [go_sem, h2]
  · obtain ⟨b0, off, v, e1, e2, e3, e4⟩ := h4 i hi
    exact ⟨b0, off, v, e1, e2, e3, by rw [World.cell?_setCell_other _ _ _ _ (fun e => Nat.ne_of_lt e2 (congrArg Addr.block e).symm)]; exact e4⟩
theorem Rdr.drewN {w : World} {a : Nat} {A : Option Addr} {m p : Nat} (h : Rdr w a A m p) (k : Nat) : Rdr (w.drewN k) a A m p := ⟨h.s, h.pos, h.fz, h.b⟩
theorem Rdr.drew {w : World} {a : Nat} {A : Option Addr} {m p : Nat} (h : Rdr w a A m p) : Rdr w.drew a A m p := ⟨h.s, h.pos, h.fz, h.b⟩

/-- The reader in a world with new blocks. -/
theorem Rdr.new {w w' : World} {a : Nat} {A : Option Addr} {m p : Nat} (h : Rdr w a A m p) (hN : New w w') : Rdr w' a A m p := by
  have hlt : a < w.heap.size := World.block_lt_of_cell? w ⟨a, 1, none⟩ h.pos
  obtain ⟨⟨c, h1⟩, h2, h3, h4⟩ := h
  refine ⟨⟨c, (hN.cells a 0 hlt).trans h1⟩, (hN.cells a 1 hlt).trans h2, (hN.marks a 1 hlt).trans h3, fun i hi => ?_⟩
  obtain ⟨b0, off, v, e1, e2, e3, e4⟩ := h4 i hi
  exact ⟨b0, off, v, e1, e2, e3, (hN.cells b0 _ (by omega)).trans e4⟩
/-- The reader behind a store into a later block. -/
theorem Rdr.set {w : World} {a : Nat} {A : Option Addr} {m p : Nat} (h : Rdr w a A m p) {q : Addr} (hq : a < q.block) (u : Value) : Rdr (w.setCell q u) a A m p := by
  obtain ⟨⟨c, h1⟩, h2, h3, h4⟩ := h
  have k : ∀ b o, b ≤ a → (w.setCell q u).cell? ⟨b, o, none⟩ = w.cell? ⟨b, o, none⟩ := fun b o hb => World.cell?_of_block (Below.heap_setCell _ _ _ _ (by simp; omega))
  refine ⟨⟨c, (k _ _ (Nat.le_refl _)).trans h1⟩, (k _ _ (Nat.le_refl _)).trans h2, (World.frozen?_of_block (w := w) (Below.heap_setCell _ _ _ _ (by simp; omega))).trans h3, fun i hi => ?_⟩
  obtain ⟨b0, off, v, e1, e2, e3, e4⟩ := h4 i hi
  exact ⟨b0, off, v, e1, e2, e3, (k _ _ (by omega)).trans e4⟩

/-! Only the reader's block has turned, and new blocks are there. -/
section
variable {w0 w1 w2 : World} {a : Nat}
theorem only_refl : w0.grownBy w0 (some a) := World.grownBy.refl _ _
theorem only_trans (h : w0.grownBy w1 (some a)) (k : w1.grownBy w2 (some a)) : w0.grownBy w2 (some a) :=
  ⟨k.os.trans h.os, k.tape.trans h.tape, k.output.trans h.output, Nat.le_trans h.size k.size, fun i hi hne => (k.block i (Nat.lt_of_lt_of_le hi h.size) hne).trans (h.block i hi hne)⟩
theorem only_new (h : w0.grownBy w1 (some a)) (k : New w1 w2) : w0.grownBy w2 (some a) :=
  ⟨k.os.trans h.os, k.tape.trans h.tape, k.output.trans h.output, Nat.le_trans h.size k.size, fun i hi hne => (k.block i (Nat.lt_of_lt_of_le hi h.size)).trans (h.block i hi hne)⟩
theorem only_alloc (h : w0.grownBy w1 (some a)) (o : Obj) : w0.grownBy (w1.alloc o) (some a) := only_new h ((New.refl _).alloc o)
theorem only_drew (h : w0.grownBy w1 (some a)) : w0.grownBy w1.drew (some a) := ⟨h.os, h.tape, h.output, h.size, h.block⟩
theorem only_set (h : w0.grownBy w1 (some a)) {q : Addr} (hq : w0.heap.size ≤ q.block) (u : Value) : w0.grownBy (w1.setCell q u) (some a) :=
  ⟨h.os, h.tape, h.output, by simpa [World.setCell] using h.size, fun i hi hne => (Below.heap_setCell _ _ _ _ (by omega)).trans (h.block i hi hne)⟩
theorem only_cells (h : w0.grownBy w1 (some a)) : ∀ k o, k < w0.heap.size → k ≠ a → w1.cell? ⟨k, o, none⟩ = w0.cell? ⟨k, o, none⟩ := fun k o hk hne => World.cell?_of_block (w := w0) (h.block k hk (by simpa using hne))
theorem only_marks (h : w0.grownBy w1 (some a)) : ∀ k o, k < w0.heap.size → k ≠ a → w1.frozen? ⟨k, o, none⟩ = w0.frozen? ⟨k, o, none⟩ := fun k o hk hne => World.frozen?_of_block (w := w0) (h.block k hk (by simpa using hne))
/-- Where the reader's block is itself new, all that is old is as it was. -/
theorem new_only {w : World} (h : New w w0) (ha : w.heap.size ≤ a) (k : w0.grownBy w1 (some a)) : New w w1 :=
  ⟨k.os.trans h.os, k.tape.trans h.tape, k.output.trans h.output, Nat.le_trans h.size k.size, fun i hi => (k.block i (Nat.lt_of_lt_of_le hi h.size) (by simp; omega)).trans (h.block i hi)⟩
end

theorem xor_bd (x y : Int) (hx : 0 ≤ x ∧ x < 4611686018427387904) (hy : 0 ≤ y ∧ y < 4611686018427387904) : 0 ≤ bits .xor .i64 x y ∧ bits .xor .i64 x y ≤ 9223372036854775807 := by
  obtain ⟨a, rfl⟩ := Int.eq_ofNat_of_zero_le hx.1
  obtain ⟨b, rfl⟩ := Int.eq_ofNat_of_zero_le hy.1
  have ofN : ∀ n : Nat, n < 9223372036854775808 → (BitVec.ofInt 64 (n : Int)).toNat = n := fun n hn => by
    rw [BitVec.ofInt_natCast, BitVec.toNat_ofNat]; exact Nat.mod_eq_of_lt (by omega)
  have hz : a ^^^ b < 2 ^ 63 := Nat.xor_lt_two_pow (by omega) (by omega)
  have e : bits .xor .i64 (a : Int) (b : Int) = ((a ^^^ b : Nat) : Int) := by
    show IntKind.i64.wrap ((BitVec.ofInt 64 (a : Int) ^^^ BitVec.ofInt 64 (b : Int)).toNat : Int) = _
    rw [BitVec.toNat_xor, ofN a (by omega), ofN b (by omega), IntKind.wrap_i64]
    omega
  rw [e]; omega

/-- What a draw leaves: a number of its range; the reader one place on; nothing else turned. -/
def Picked (n : Int) (w : World) (a : Nat) (A : Option Addr) (m p : Nat) (e : Ending) (w' : World) : Prop :=
  ∃ v : Int, e = .returned (.int .i64 v) ∧ 0 ≤ v ∧ (1 ≤ n → v < n) ∧ Rdr w' a A m (p + 1) ∧ w.grownBy w' (some a)
theorem by_set {w : World} {a : Nat} (u : Value) : w.grownBy (w.setCell ⟨a, 1, none⟩ u) (some a) :=
  ⟨rfl, rfl, rfl, by simp [World.setCell], fun k _ hne => Below.heap_setCell _ _ _ _ (fun e => hne (by rw [e]))⟩
theorem by_drewN {w w' : World} {r : Option Nat} (h : w.grownBy w' r) (k : Nat) : w.grownBy (w'.drewN k) r := ⟨h.os, h.tape, h.output, h.size, h.block⟩

set_option maxHeartbeats 400000 in
theorem pick_low (n : Int) (hn : n < 1) (a : Nat) (A : Option Addr) (m p : Nat) (hp : p ≤ 1000000) (w : World) (h : Rdr w a A m p) :
    Calls Tryz.prog 33 #[.pointer (some ⟨a, 0, none⟩), .int .i64 n] w (Picked n w a A m p) := by
  have hr := h.step
  have HR := Lib.hid hr
  obtain ⟨⟨c, h1⟩, h2, h3, h4⟩ := h
  clear h4 hr
  go_enter Tryz.func33, Tryz.ntmps33
  go_wp2
  go_ret
  exact ⟨0, rfl, by omega, fun _ => by omega, HR.out, by_set _⟩

set_option maxHeartbeats 400000 in
theorem pick_none (n : Int) (hn : 1 ≤ n) (a : Nat) (A : Option Addr) (p : Nat) (hp : p ≤ 1000000) (w : World) (h : Rdr w a A 0 p) :
    Calls Tryz.prog 33 #[.pointer (some ⟨a, 0, none⟩), .int .i64 n] w (Picked n w a A 0 p) := by
  have hr := h.step
  have HR := Lib.hid hr
  obtain ⟨⟨c, h1⟩, h2, h3, h4⟩ := h
  clear h4 hr
  go_enter Tryz.func33, Tryz.ntmps33
  go_wp2
  go_ret
  exact ⟨0, rfl, by omega, fun _ => by omega, HR.out, by_set _⟩

set_option maxHeartbeats 800000 in
theorem pick_in (n : Int) (hn : 1 ≤ n) (a : Nat) (A : Option Addr) (m p : Nat) (hp : p ≤ 1000000) (_hm : m ≤ 2000) (hlt : p < m) (w : World) (h : Rdr w a A m p) :
    Calls Tryz.prog 33 #[.pointer (some ⟨a, 0, none⟩), .int .i64 n] w (Picked n w a A m p) := by
  have hr := h.step
  have HR := Lib.hid hr
  obtain ⟨⟨c, h1⟩, h2, h3, h4⟩ := h
  obtain ⟨b0, off, v, rfl, e2', e3, e4⟩ := h4 p hlt
  have e2 := Nat.ne_of_lt e2'
  clear e2'
  clear h4 hr
  have hne : ((m : Int) == 0) = false := by simp; omega
  go_enter Tryz.func33, Tryz.ntmps33
  go_wp2
  go_ret
  exact ⟨_, rfl, Int.emod_nonneg _ (by omega), fun _ => Int.emod_lt_of_pos _ (by omega), HR.out, by_set _⟩

set_option maxHeartbeats 1600000 in
theorem pick_out (n : Int) (hn : 1 ≤ n) (a : Nat) (A : Option Addr) (m p : Nat) (hp : p ≤ 1000000) (hm : m ≤ 2000) (h0 : 0 < m) (hge : m ≤ p) (w : World) (h : Rdr w a A m p) :
    Calls Tryz.prog 33 #[.pointer (some ⟨a, 0, none⟩), .int .i64 n] w (Picked n w a A m p) := by
  have hr := h.step
  have HR := Lib.hid hr
  obtain ⟨⟨c, h1⟩, h2, h3, h4⟩ := h
  obtain ⟨b0, off, v, rfl, e2', e3, e4⟩ := h4 (p % m) (Nat.mod_lt _ h0)
  have e2 := Nat.ne_of_lt e2'
  clear e2'
  obtain ⟨b1, off1, v1, ee, e5, e6, e7⟩ := h4 ((p * 7 + 3) % m) (Nat.mod_lt _ h0)
  simp only [Option.some.injEq, Addr.mk.injEq, and_true] at ee
  obtain ⟨rfl, rfl⟩ := ee
  clear h4 hr e5
  have hne : ((m : Int) == 0) = false := by simp; omega
  have i0 : (0 : Int) ≤ (p : Int) % (m : Int) := Int.emod_nonneg _ (by omega)
  have i1 : (p : Int) % (m : Int) < (m : Int) := Int.emod_lt_of_pos _ (by omega)
  have i2 : (0 : Int) ≤ ((p : Int) * 7 + 3) % (m : Int) := Int.emod_nonneg _ (by omega)
  have i3 : ((p : Int) * 7 + 3) % (m : Int) < (m : Int) := Int.emod_lt_of_pos _ (by omega)
  have q0 : (0 : Int) ≤ (p : Int) / (m : Int) := Int.ediv_nonneg (by omega) (by omega)
  have q1 : (p : Int) / (m : Int) ≤ (p : Int) := Int.ediv_le_self _ (by omega)
  go_enter Tryz.func33, Tryz.ntmps33
  go_wp2
  go_quiet (fail)
  go_wp2
  have xb := xor_bd ((v : Int) * 131 + (v1 : Int) * 1117 + (p : Int) * 29 + (p : Int) / (m : Int) * 53) (((v : Int) * 131 + (v1 : Int) * 1117 + (p : Int) * 29 + (p : Int) / (m : Int) * 53) / 64) (by omega) (by omega)
  go_ret
  refine ⟨_, rfl, ?_, fun _ => ?_, HR.out.drewN nq, by_drewN (by_set _) nq⟩
  · rw [Int.tmod_eq_emod_of_nonneg xb.1]; exact Int.emod_nonneg _ (by omega)
  · rw [Int.tmod_eq_emod_of_nonneg xb.1]; exact Int.emod_lt_of_pos _ (by omega)

theorem pick_any (n : Int) (a : Nat) (A : Option Addr) (m p : Nat) (hp : p ≤ 1000000) (hm : m ≤ 2000) (w : World) (h : Rdr w a A m p) :
    Calls Tryz.prog 33 #[.pointer (some ⟨a, 0, none⟩), .int .i64 n] w (Picked n w a A m p) := by
  by_cases hn : n < 1
  · exact pick_low n hn a A m p hp w h
  rcases Nat.eq_zero_or_pos m with rfl | h0
  · exact pick_none n (by omega) a A p hp w h
  by_cases hlt : p < m
  · exact pick_in n (by omega) a A m p hp hm hlt w h
  · exact pick_out n (by omega) a A m p hp hm h0 (by omega) w h

/-- What a choice out of a list leaves. -/
def Chosen (zs : List Int) (w : World) (a : Nat) (A : Option Addr) (m p : Nat) (e : Ending) (w' : World) : Prop :=
  ∃ z : Int, e = .returned (.int .i64 z) ∧ z ∈ zs ∧ Rdr w' a A m (p + 1) ∧ w.grownBy w' (some a)

set_option maxHeartbeats 400000 in
theorem one_any (zs : List Int) (hz : 1 ≤ zs.length) (hz' : zs.length ≤ 100) (g c a : Nat) (A : Option Addr) (m p : Nat) (hp : p ≤ 1000000) (hm : m ≤ 2000) (w : World) (h : Rdr w a A m p)
    (hga : g ≠ a) (hg : g < w.heap.size) (hl : ∀ i, i < zs.length → w.cell? ⟨g, i, none⟩ = some (.int .i64 (zs.getD i 0))) :
    Calls Tryz.prog 44 #[.pointer (some ⟨a, 0, none⟩), .slice (some ⟨g, 0, none⟩) zs.length c] w (Chosen zs w a A m p) := by
  have HL := Lib.hid hl
  have HR := Lib.hid h
  clear hl h
  go_enter Tryz.func44, Tryz.ntmps44
  go_wp2_with fail
  refine (pick_any _ a A m p hp hm _ HR.out).mono ?_
  rintro e w1 ⟨v, rfl, v0, v1, hR1, hG1⟩
  have hv := v1 (by omega)
  clear v1
  obtain ⟨i, rfl⟩ := Int.eq_ofNat_of_zero_le v0
  have hi : i < zs.length := by omega
  have HR1 := Lib.hid hR1; have HG1 := Lib.hid hG1
  have hc1 : w1.cell? ⟨g, i, none⟩ = some (.int .i64 (zs.getD i 0)) := (World.cell?_of_block (hG1.block g hg (by simpa using hga))).trans (HL.out i hi)
  clear hR1 hG1
  go_wp2
  go_ret
  exact ⟨zs[i], rfl, List.getElem_mem hi, HR1.out, HG1.out⟩

/-- A literal list of numbers, just laid. -/
theorem lit_cells (zs : List Int) (w : World) (t : TypeId) : ∀ i, i < zs.length → (w.alloc (.cells (zs.map (Value.int .i64)).toArray t)).cell? ⟨w.heap.size, i, none⟩ = some (.int .i64 (zs.getD i 0)) := fun i hi => by
  have e : (w.alloc (.cells (zs.map (Value.int .i64)).toArray t)).cell? ⟨w.heap.size, i, none⟩ = (zs.map (Value.int .i64)).toArray[i]? := World.cell?_alloc_new w _ t i
  rw [e]
  simp [hi]

/-- A slice of bytes that lies in the old memory. -/
def Bytes (w : World) (A : Option Addr) (m : Nat) : Prop := ∀ i, i < m → ∃ (b0 off v : Nat), A = some ⟨b0, off, none⟩ ∧ b0 < w.heap.size ∧ v < 256 ∧ w.cell? ⟨b0, off + i, none⟩ = some (.int .u8 v)

theorem Bytes.new {w w' : World} {A : Option Addr} {m : Nat} (h : Bytes w A m) (hN : New w w') : Bytes w' A m := fun i hi => by
  obtain ⟨b0, off, v, e1, e2, e3, e4⟩ := h i hi
  exact ⟨b0, off, v, e1, Nat.lt_of_lt_of_le e2 hN.le, e3, (hN.cells b0 _ e2).trans e4⟩

set_option maxHeartbeats 400000 in
theorem newReader_any (A : Option Addr) (n c : Nat) (hn : n ≤ maxLen) (hnc : n ≤ c) (w : World) (hb : Bytes w A n) :
    Calls Tryz.prog 25 #[.slice A n c] w fun e w' => e = .returned (.pointer (some ⟨w.heap.size, 0, none⟩)) ∧ (∃ m, m ≤ 2000 ∧ Rdr w' w.heap.size A m 0) ∧ New w w' ∧ w.heap.size < w'.heap.size := by
  have fin : ∀ (m c' : Nat), m ≤ n → Rdr (w.alloc (.cells #[.slice A m c', .int .i64 0] 72)) w.heap.size A m 0 := fun m c' hm => by
    refine ⟨⟨c', by simp [go_sem]⟩, by simp [go_sem], by simp [go_sem], fun i hi => ?_⟩
    obtain ⟨b0, off, v, e1, e2, e3, e4⟩ := hb i (by omega)
    exact ⟨b0, off, v, e1, e2, e3, by rw [World.cell?_alloc_lt _ _ _ (by exact e2)]; exact e4⟩
  have FIN := Lib.hid fin
  clear hb fin
  unfold maxLen at hn
  by_cases h : 2000 < n
  · go_enter Tryz.func25, Tryz.ntmps25
    go_wp2
    go_ret
    exact ⟨rfl, ⟨2000, by omega, FIN.out 2000 _ (by omega)⟩, by (repeat (first | exact New.refl _ | assumption | refine New.alloc ?_ _ | refine New.drew ?_ | refine New.drewN ?_ _ | refine New.setCell ?_ (by first | omega | (simp; omega) | (simp; done)) _ | refine New.trans ?_ (by assumption))), by simp⟩
  · go_enter Tryz.func25, Tryz.ntmps25
    go_wp2
    go_ret
    exact ⟨rfl, ⟨n, by omega, FIN.out n _ (by omega)⟩, by (repeat (first | exact New.refl _ | assumption | refine New.alloc ?_ _ | refine New.drew ?_ | refine New.drewN ?_ _ | refine New.setCell ?_ (by first | omega | (simp; omega) | (simp; done)) _ | refine New.trans ?_ (by assumption))), by simp⟩

end Go.Proofs.YtffggmjhaaehlaaGreatDoor
