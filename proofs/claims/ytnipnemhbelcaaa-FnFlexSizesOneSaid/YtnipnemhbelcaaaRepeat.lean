/- A list of ones: slices.Repeat of a list of one number, at most seven times. No condition. -/
import Derived.Test.YtnipnemhbelcaaaApp
import Derived.Laws.CopyOwn
import Derived.Deep.RegionLaw
import Derived.RegionTactic
import Derived.BigRegion
import Derived.Test.YtnipnemhbelcaaaShareE
namespace Go.Proofs.Ytnipnemhbelcaaa
open Go.RowKit

theorem eight {c : Nat} (h : c < 8) : c = 0 ∨ c = 1 ∨ c = 2 ∨ c = 3 ∨ c = 4 ∨ c = 5 ∨ c = 6 ∨ c = 7 := by omega
theorem pair_end {a b : Int} (ha : a = 0) {c : Int} (hb : b = c) : Ending.returned (.tuple #[.int .u64 a, .int .u64 b]) = .returned (.tuple #[.int .u64 0, .int .u64 c]) := by rw [ha, hb]
/-- Block g holds just the numbers zs. -/
def Blk (w : World) (g : Nat) (zs : List Int) : Prop := w.heap[g]? = some (.cells (zs.map (Value.int .i64)).toArray 3 (0, 0))
theorem Blk.row {w : World} {g : Nat} {zs : List Int} (h : Blk w g zs) : Row w g zs := by
  unfold Blk at h
  have hlt : g < w.heap.size := by
    rcases Nat.lt_or_ge g w.heap.size with h1 | h1
    · exact h1
    · rw [Array.getElem?_eq_none h1] at h; cases h
  refine ⟨hlt, fun i hi => ?_, fun i _ => by simp [World.frozen?, h]⟩
  rw [cell_of_row w g i _ 3 (0, 0) h]
  simp [hi]
theorem Blk.new {w w' : World} {g : Nat} {zs : List Int} (h : Blk w g zs) (k : New w w') : Blk w' g zs := (k.block g h.row.lt).trans h
theorem Blk.made (w : World) (n : Nat) : Blk (w.alloc (.cells (madeCells #[.int .i64 0] n) 3)) w.heap.size (List.replicate n 0) := by
  have e : (madeCells #[Value.int .i64 0] n) = ((List.replicate n (0 : Int)).map (Value.int .i64)).toArray := by
    apply Array.ext
    · simp [madeCells]
    · intro i h1 h2
      simp [madeCells, Nat.mod_one]
  unfold Blk
  rw [← e]
  exact heap_alloc_new w _
theorem size_int : (Try.prog.info? 3).map (·.size) = some 1 := by kernel_rfl
/-- The first n are one, the others 0. -/
def oneTo (n c : Nat) : List Int := List.replicate n 1 ++ List.replicate (c - n) 0
theorem oneTo_splice (n m c : Nat) : splice (oneTo n c) n (List.replicate m (1 : Int)) = oneTo (n + m) c := by
  unfold splice oneTo
  rw [List.take_append_of_le_length (by simp), List.drop_append]
  simp
  rw [show c - n - m = c - (n + m) by omega]
  have e : List.replicate (n + m) (1 : Int) = List.replicate n 1 ++ List.replicate m 1 := by rw [List.replicate_append_replicate]
  rw [e, List.append_assoc]
theorem splice_map (L : List Int) (off : Nat) (cs : List Int) : splice (L.map (Value.int .i64)) off (cs.map (Value.int .i64)) = (splice L off cs).map (Value.int .i64) := by
  unfold splice
  simp
theorem src_of {w : World} {A : Option Addr} {n m : Nat} {xs : List Int} (hx : Ints w A n xs) (hm : m ≤ n) (h0 : 0 < m) : ∃ ad, A = some ad ∧ ∀ (j : Nat) (v : Value), ((xs.take m).map (Value.int .i64))[j]? = some v → w.cell? (ad.add j) = some v := by
  obtain ⟨b, off, rfl, hb, hc⟩ := hx.at_ (by omega)
  refine ⟨_, rfl, fun j v hv => ?_⟩
  have hl := hx.len
  have hj : j < m := by
    rcases Nat.lt_or_ge j m with h1 | h1
    · exact h1
    · rw [List.getElem?_eq_none (by simp; omega)] at hv; cases hv
  have e : v = .int .i64 (xs.getD j 0) := by
    simp [hj] at hv
    obtain ⟨z, hz, rfl⟩ := hv
    simp [hz]
  rw [e, Go.WideShapes.add_plain]
  exact hc j (by omega)
theorem ones_cell (xs : List Int) : ∀ v ∈ xs.map (Value.int .i64), v.oneCell' = true := fun u hu => by
  obtain ⟨z, _, rfl⟩ := List.mem_map.1 hu
  rfl
/-- Numbers are copied into a block of the call's own that is known whole. -/
theorem run_cp (w : World) (ty : TypeId) (g off dLen dCap : Nat) (A : Option Addr) (n c : Nat) (xs : List Int) (cur : List Int) (hg : Blk w g cur) (hx : Ints w A n xs) (m : Nat) (hm : m = Nat.min n dLen) (hfit : off + m ≤ cur.length) :
    ∃ w', (Builtin.copy_ #[36, 36] ty #[.slice (some ⟨g, off, none⟩) dLen dCap, .slice A n c]).run Try.prog w = .ok (.int .i64 m) w' ∧ Blk w' g (splice cur off (xs.take m)) ∧ ∀ w0, New w0 w → w0.heap.size ≤ g → New w0 w' := by
  have hmn : m ≤ n := by rw [hm]; exact Nat.min_le_left _ _
  have hlen : ((xs.take m).map (Value.int .i64)).length = m := by have := hx.len; simp; omega
  rcases Nat.eq_zero_or_pos m with h0 | h0
  · refine ⟨w, ?_, ?_, fun _ h _ => h⟩
    · rw [run_copy_none (P := Try.prog) w 36 36 ty 3 _ A dLen dCap n c Try.underlying36 size_int (by rw [← hm]; exact h0), h0]
      rfl
    · rw [h0]
      simpa [splice] using hg
  · obtain ⟨ad, rfl, hsrc⟩ := src_of hx hmn h0
    refine ⟨_, (run_copy_row (P := Try.prog) w 36 36 ty 3 g off dLen dCap ad n c (cur.map (Value.int .i64)).toArray 3 ((xs.take m).map (Value.int .i64)) Try.underlying36 size_int hg (by rw [hlen, hm]) hsrc (by rw [hlen]; simpa using hfit) (ones_cell _)).trans (by rw [hlen]; rfl), ?_, fun w0 h hl => below_setRow h hl _⟩
    unfold Blk
    have h := setRow_heap w g (cur.map (Value.int .i64)).toArray (((cur.map (Value.int .i64)).take off ++ (xs.take m).map (Value.int .i64) ++ (cur.map (Value.int .i64)).drop (off + m)).toArray) 3 (0, 0) hg
    refine h.trans ?_
    congr 2
    rw [← splice_map]
    unfold splice
    rw [hlen, List.append_assoc]
theorem step_copy {w : World} {ops : Array Oper} {o : Oper} {a : Act} {K : Act → World → Prop} {Q : Exit → Act → World → Prop} {E : Prop} (hgd : o.guard = none) (d s : Operand)
    (ho : o.op = .call { callee := .builtin .copy, args := #[d, s], argTypes := #[36, 36] }) (g off dLen dCap : Nat) (hd : a.eval d = .slice (some ⟨g, off, none⟩) dLen dCap)
    (A : Option Addr) (n c : Nat) (xs : List Int) (hs : a.eval s = .slice A n c) (cur : List Int) (hg : Blk w g cur) (hx : Ints w A n xs) (m : Nat) (hm : m = Nat.min n dLen) (hfit : off + m ≤ cur.length) (w0 : World) (hN : New w0 w) (hl : w0.heap.size ≤ g)
    (h : ∀ w', Hid (Blk w' g (splice cur off (xs.take m))) → New w0 w' → K (a.put o.dst (.int .i64 m)) w') :
    if Region.wanted o (yielded ops a.tmps) = true then Oper.wp Try.prog o a w K Q else E := by
  have hmn : m ≤ n := by rw [hm]; exact Nat.min_le_left _ _
  have hlen : ((xs.take m).map (Value.int .i64)).length = m := by have := hx.len; simp; omega
  refine step_copy_splice hgd d s 36 36 ho 3 Try.underlying36 size_int _ A dLen dCap n c hd hs g off (cur.map (Value.int .i64)) 3 hg ((xs.take m).map (Value.int .i64)) (by rw [hlen, hm]) (fun h0 => ⟨rfl, src_of hx hmn (by omega)⟩) (by rw [hlen, List.length_map]; exact hfit) (ones_cell _) w0.heap.size w0 hN hl ?_
  intro w' hw' hb
  have e : goInt ((xs.take m).map (Value.int .i64)).length = .int .i64 m := by rw [hlen]; rfl
  rw [e]
  refine h w' (show Blk w' g _ from ?_) hb
  have h2 := hw'.out
  rw [splice_map] at h2
  exact h2
theorem oneTo_len (n c : Nat) (h : n ≤ c) : (oneTo n c).length = c := by unfold oneTo; simp; omega
end Go.Proofs.Ytnipnemhbelcaaa
