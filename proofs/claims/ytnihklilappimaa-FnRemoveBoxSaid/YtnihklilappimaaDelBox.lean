/- slices.Delete in a list of Box of the call's own, walked. Conditions: the list is short; something is taken out. -/
import Derived.Test.YtnihklilappimaaInsBox
import Derived.Lib.SliceRun
import Derived.Deep.RegionLaw
namespace Go.Proofs.Ytnihklilappimaa
open Go.RowKit

theorem zeroBox_at : ∀ r, r < 9 → (#[Value.int .i64 0, Value.int .i64 0, Value.int .i64 0, Value.int .i64 0, Value.int .i64 0, Value.int .i64 0, Value.int .i64 0, Value.int .i64 0, Value.int .i64 0] : Array Value)[r]? = some (Value.int .i64 0)
  | 0, _ => rfl
  | 1, _ => rfl
  | 2, _ => rfl
  | 3, _ => rfl
  | 4, _ => rfl
  | 5, _ => rfl
  | 6, _ => rfl
  | 7, _ => rfl
  | 8, _ => rfl
theorem zerosBox (n : Nat) : (Builtin.zeroCells (Value.agg #[Value.int .i64 0, Value.int .i64 0, Value.int .i64 0, Value.int .i64 0, Value.int .i64 0, Value.int .i64 0, Value.int .i64 0, Value.int .i64 0, Value.int .i64 0]).cells n).toList = List.replicate (n * 9) (Value.int .i64 0) := by
  apply List.ext_getElem?
  intro i
  by_cases hi : i < n * 9
  · have h := zeroBox_at (i % 9) (by omega)
    obtain ⟨r, hr⟩ : ∃ r, i % 9 = r := ⟨_, rfl⟩
    have hr9 : r < 9 := by omega
    simp [Builtin.zeroCells, Value.cells, hi, hr]
    rw [hr] at h
    simp at h
    rw [h]; rfl
  · rw [List.getElem?_eq_none (by simp [Builtin.zeroCells, Value.cells]; omega), List.getElem?_eq_none (by simp; omega)]
theorem run_clearBox (w : World) (ty : TypeId) (b o n c : Nat) (hn : 0 < n) (hc : ∀ j, j < n * 9 → (w.cell? ⟨b, o + j, none⟩).isSome = true) (hf : ∀ j, j < n * 9 → w.frozen? ⟨b, o + j, none⟩ = false) :
    (Builtin.clear_ #[23] ty #[.slice (some ⟨b, o, none⟩) n c]).run Try.prog w = .ok (.tuple #[]) (w.setCells b o (List.replicate (n * 9) (.int .i64 0))) := by
  have hst := run_storeCells_cells (P := Try.prog) b o (List.replicate (n * 9) (Value.int .i64 0)) 0 w (by simpa using hc) (by simpa using hf) (by intro v hv'; rw [List.eq_of_mem_replicate hv']; rfl)
  simp only [Nat.add_zero] at hst
  obtain ⟨i0, hi0, hz0, hzs, hzb⟩ := info_parts info_Box
  have hv : ∀ w, (zeroValue 36).run Try.prog w = .ok (.agg #[Value.int .i64 0, Value.int .i64 0, Value.int .i64 0, Value.int .i64 0, Value.int .i64 0, Value.int .i64 0, Value.int .i64 0, Value.int .i64 0, Value.int .i64 0]) w := fun w => by simp [zeroValue, typeInfo, hi0, hz0]
  obtain ⟨q, rfl⟩ : ∃ q, n = q + 1 := ⟨n - 1, by omega⟩
  simp [Builtin.clear_, run_underlying Try.underlying23, hv, zerosBox, hst]
set_option maxRecDepth 100000 in
set_option maxHeartbeats 4000000 in
/-- m of n structs are taken out, from the i-th on. -/
theorem DeleteBox_any (g n c i m : Nat) (zs : List Int) (hm : 0 < m) (him : i + m ≤ n) (hn : n ≤ 1000) (hcap : n ≤ c) (hcm : c ≤ 9223372036854775807) (w : World) (hz : zs.length = n * 9) (R : Row w g zs) :
    Calls Try.prog 63 #[.slice (some ⟨g, 0, none⟩) n c, .int .i64 (i : Int), .int .i64 ((i + m : Nat) : Int)] w fun e w' => e = .returned (.slice (some ⟨g, 0, none⟩) (n - m) c) ∧ Row w' g (zs.take (i * 9) ++ zs.drop ((i + m) * 9)) ∧ w.grownBy w' (some g) := by
  obtain ⟨j, hj⟩ : ∃ j, i + m = j := ⟨_, rfl⟩
  rw [hj] at him ⊢
  obtain ⟨i0, hi0, hz0, hzs, hzb⟩ := info_parts info_Box
  obtain ⟨ds, hds⟩ : ∃ ds, zs.drop (j * 9) = ds := ⟨_, rfl⟩
  have hdl : ds.length = (n - j) * 9 := by rw [← hds, List.length_drop, hz]; omega
  have hdg : ∀ t, t < ds.length → ds.getD t 0 = zs.getD (j * 9 + t) 0 := fun t _ => by rw [← hds, List.getD_eq_getElem?_getD, List.getElem?_drop, List.getD_eq_getElem?_getD]
  have hcell : ∀ t, t < n * 9 → w.cell? ⟨g, t, none⟩ = some (.int .i64 (zs.getD t 0)) := fun t ht => R.c t (by omega)
  have hfz : ∀ t, t < n * 9 → w.frozen? ⟨g, t, none⟩ = false := fun t ht => R.f t (by omega)
  obtain ⟨A, hA, hsrc⟩ : ∃ A : Addr, (if c = j then some (⟨g, 0, none⟩ : Addr) else some ⟨g, j * 9, none⟩) = some A ∧ Hid (∀ t u, (ds.map (Value.int .i64))[t]? = some u → w.drew.cell? (A.add t) = some u) := by
    by_cases h : c = j
    · refine ⟨⟨g, 0, none⟩, by simp [h], Lib.hid (fun t u hu => ?_)⟩
      have h0 : ds = [] := List.eq_nil_of_length_eq_zero (by rw [hdl]; omega)
      rw [h0] at hu
      simp at hu
    · refine ⟨⟨g, j * 9, none⟩, by simp [h], Lib.hid (fun t u hu => ?_)⟩
      have ht : t < ds.length := by
        rcases Nat.lt_or_ge t ds.length with h1 | h1
        · exact h1
        · rw [List.getElem?_eq_none (by simpa using h1)] at hu; cases hu
      have e : u = .int .i64 (ds.getD t 0) := by
        simp [ht] at hu ⊢
        exact hu.symm
      rw [e, Go.WideShapes.add_plain, hdg t ht]
      exact hcell _ (by omega)
  have s1 : Hid ((ds.map (Value.int .i64)).length = (n - j) * 9) := Lib.hid (by rw [List.length_map]; exact hdl)
  have s2 : Hid (∀ u ∈ ds.map (Value.int .i64), u.oneCell' = true) := Lib.hid (fun u hu => by obtain ⟨x, _, rfl⟩ := List.mem_map.1 hu; rfl)
  have s3 : Hid (∀ t, t < (ds.map (Value.int .i64)).length → (w.drew.cell? ⟨g, 0 + i * 9 + t, none⟩).isSome = true ∧ w.drew.frozen? ⟨g, 0 + i * 9 + t, none⟩ = false) := Lib.hid (fun t ht => by
    rw [List.length_map] at ht
    rw [Nat.zero_add]
    exact ⟨by show (w.cell? _).isSome = true; rw [hcell _ (by omega)]; rfl, hfz _ (by omega)⟩)
  have C1 := Cpd.of (W := w.drew) (g := g) (o := 0 + i * 9) (cs := ds) (fun t ht => by show (w.cell? _).isSome = true; rw [hcell _ (by omega)]; rfl)
  obtain ⟨W1, hW1⟩ : ∃ W1, W1 = w.drew.setCells g (0 + i * 9) (ds.map (Value.int .i64)) := ⟨_, rfl⟩
  rw [← hW1] at C1
  have hx1 : ∀ t, t < n * 9 → (W1.cell? ⟨g, t, none⟩).isSome = true := fun t ht => by
    by_cases h1 : 0 + i * 9 ≤ t ∧ t < 0 + i * 9 + ds.length
    · have := C1.cin (t - (0 + i * 9)) (by omega)
      rw [show 0 + i * 9 + (t - (0 + i * 9)) = t by omega] at this
      rw [this]; rfl
    · rw [C1.cout ⟨g, t, none⟩ (fun _ _ => by show t < _ ∨ _ ≤ t; omega)]
      show (w.cell? _).isSome = true
      rw [hcell t ht]; rfl
  have hcl : ∀ ty cc, (Builtin.clear_ #[23] ty #[.slice (some ⟨g, (i + (n - j)) * 9, none⟩) (n - (i + (n - j))) cc]).run Try.prog W1 = .ok (.tuple #[]) (W1.setCells g ((i + (n - j)) * 9) (List.replicate ((n - (i + (n - j))) * 9) (.int .i64 0))) := fun ty cc =>
    run_clearBox W1 ty g _ _ cc (by omega) (fun t ht => hx1 _ (by omega)) (fun t ht => by rw [C1.fz]; exact hfz _ (by omega))
  have C2 := Cpd.of (W := W1) (g := g) (o := (i + (n - j)) * 9) (cs := List.replicate ((n - (i + (n - j))) * 9) 0) (fun t ht => hx1 _ (by rw [List.length_replicate] at ht; omega))
  rw [List.map_replicate] at C2
  obtain ⟨W2, hW2⟩ : ∃ W2, W2 = W1.setCells g ((i + (n - j)) * 9) (List.replicate ((n - (i + (n - j))) * 9) (.int .i64 0)) := ⟨_, rfl⟩
  rw [← hW2] at C2
  have G2 : w.grownBy W2 (some g) := ⟨C2.gr.os.trans C1.gr.os, C2.gr.tape.trans C1.gr.tape, C2.gr.output.trans C1.gr.output, Nat.le_trans C1.gr.size C2.gr.size, fun i hi hne2 => (C2.gr.block i (Nat.lt_of_lt_of_le hi C1.gr.size) hne2).trans (C1.gr.block i hi hne2)⟩
  have R2 : Row W2 g (zs.take (i * 9) ++ ds) := by
    refine ⟨Nat.lt_of_lt_of_le R.lt G2.size, fun t ht => ?_, fun t ht => by rw [C2.fz, C1.fz]; refine hfz _ ?_; rw [List.length_append, List.length_take, hz, hdl] at ht; omega⟩
    rw [List.length_append, List.length_take, hz, hdl] at ht
    rw [C2.cout ⟨g, t, none⟩ (fun _ _ => .inl (by show t < _; omega))]
    have hl : (zs.take (i * 9)).length = i * 9 := by rw [List.length_take, hz]; omega
    by_cases h1 : t < i * 9
    · rw [C1.cout ⟨g, t, none⟩ (fun _ _ => .inl (by show t < _; omega)), List.getD_eq_getElem?_getD, List.getElem?_append_left (by omega), List.getElem?_take_of_lt h1, ← List.getD_eq_getElem?_getD]
      exact hcell t (by omega)
    · have := C1.cin (t - i * 9) (by omega)
      rw [show 0 + i * 9 + (t - i * 9) = t by omega] at this
      rw [this, List.getD_eq_getElem?_getD (l := zs.take (i * 9) ++ ds), List.getElem?_append_right (by omega), hl, ← List.getD_eq_getElem?_getD]
  have FIN := Lib.hid (show Row W2 g (zs.take (i * 9) ++ zs.drop (j * 9)) ∧ w.grownBy W2 (some g) from ⟨by rw [hds]; exact R2, G2⟩)
  rw [hW2] at FIN
  have hW := Lib.hid hW1
  have hij : (i : Int) ≤ (j : Int) := by omega
  have hne : ((i : Int) == (j : Int)) = false := by simp; omega
  have hne2 : (i == j) = false := by simp; omega
  have i0' : (0 : Int) ≤ (i : Int) := by omega
  have jn : (j : Int) ≤ (n : Int) := by omega
  have nc : (n : Int) ≤ (c : Int) := by omega
  have cm : (c : Int) ≤ 9223372036854775807 := by omega
  have hic : i ≤ c := by omega
  have hjc : j ≤ c := by omega
  have e1 : n - m = i + (n - j) := by omega
  rw [e1]
  clear hW1 hW2 C1 C2 R2 G2 hx1 hcell hfz hdg hdl hds R hz hzb
  go_enter Try.func63, Try.ntmps63
  go_wp2_with fail
  go_region_law (refine step_append_room rfl (.tmp 22) (.tmp 25) 23 rfl 36 i0 9 Try.underlying23 hi0 hzs g 0 i c (by simp [Act.eval, Act.put]) A (n - j) (c - j) (ds.map (Value.int .i64)) (by simp [Act.eval, Act.put]) s1.out hsrc.out s2.out (by omega) s3.out ?_; rw [← hW.out])
  go_wp2
  go_ret
  exact ⟨rfl, FIN.out.1, FIN.out.2⟩
end Go.Proofs.Ytnihklilappimaa
