/- Boxs, as they come in: a slice of structs that can be read. No condition. -/
import Derived.Test.YtffggmjhaaehlaaDoorRowF
import Derived.Test.YtffggmjhaaehlaaDoorBoxS
namespace Go.Proofs.YtffggmjhaaehlaaDoor
open Go.ChangeShapes Go.WideShapes Go.ChangeAt Go.RowKit Go.Deep

set_option maxRecDepth 100000 in
theorem open_BoxS {H : Type} {enc : TypeId × Value → H} {W : World} {r : Reach} {b0 : Nat} {v : Value} {d : DataW H} {p : List MemPlace}
    (hv : Value.okWide Tryd.prog W r b0 22 v) (h : DataW.Trod enc Tryd.prog W 0 (fun _ => true) true 22 v d p) :
    ∃ (A : Option Addr) (n c : Nat) (xs : List Int), v = .slice A n c ∧ n ≤ maxLen ∧ Sts 9 W A n xs := by
  obtain ⟨A, n, c, rfl⟩ := okWide_slice Tryd.underlying22 hv
  obtain ⟨fuel, hf⟩ := h
  rcases open_cells Tryd.underlying22 Tryd.underlying38 (by kernel_rfl) (by kernel_rfl) hf with hcs | ⟨a, len, cap, hcs, hl, hm, hi⟩
  · simp [Value.cells] at hcs
    obtain ⟨rfl, rfl, rfl⟩ := hcs
    exact ⟨none, 0, 0, [], rfl, Nat.zero_le _, ⟨rfl, fun hh => absurd hh (by omega)⟩⟩
  · simp [Value.cells] at hcs
    obtain ⟨rfl, rfl, rfl⟩ := hcs
    have each : ∀ i, i < n * 9 → ∃ z, W.cell? (a.add i) = some (.int .i64 z) := fun i hlt => by
      have hj : i % 9 < 9 := Nat.mod_lt _ (by omega)
      have hk : i / 9 < n := Nat.div_lt_of_lt_mul (by rw [Nat.mul_comm]; exact hlt)
      have e : i / 9 * 9 + i % 9 = i := by rw [Nat.mul_comm]; exact Nat.div_add_mod i 9
      have hh := hi (i / 9) hk (i % 9)
      generalize i % 9 = j at hj hh e
      rw [← e]
      match j, hj with
      | 0, _ => obtain ⟨v, y, n', hc, ht⟩ := hh _ rfl; obtain ⟨z, hz, _⟩ := DataW.trod_int Tryd.underlying3 ht; exact ⟨z, by rw [List.cons.inj hz |>.1] at hc; exact hc⟩
      | 1, _ => obtain ⟨v, y, n', hc, ht⟩ := hh _ rfl; obtain ⟨z, hz, _⟩ := DataW.trod_int Tryd.underlying3 ht; exact ⟨z, by rw [List.cons.inj hz |>.1] at hc; exact hc⟩
      | 2, _ => obtain ⟨v, y, n', hc, ht⟩ := hh _ rfl; obtain ⟨z, hz, _⟩ := DataW.trod_int Tryd.underlying3 ht; exact ⟨z, by rw [List.cons.inj hz |>.1] at hc; exact hc⟩
      | 3, _ => obtain ⟨v, y, n', hc, ht⟩ := hh _ rfl; obtain ⟨z, hz, _⟩ := DataW.trod_int Tryd.underlying3 ht; exact ⟨z, by rw [List.cons.inj hz |>.1] at hc; exact hc⟩
      | 4, _ => obtain ⟨v, y, n', hc, ht⟩ := hh _ rfl; obtain ⟨z, hz, _⟩ := DataW.trod_int Tryd.underlying3 ht; exact ⟨z, by rw [List.cons.inj hz |>.1] at hc; exact hc⟩
      | 5, _ => obtain ⟨v, y, n', hc, ht⟩ := hh _ rfl; obtain ⟨z, hz, _⟩ := DataW.trod_int Tryd.underlying3 ht; exact ⟨z, by rw [List.cons.inj hz |>.1] at hc; exact hc⟩
      | 6, _ => obtain ⟨v, y, n', hc, ht⟩ := hh _ rfl; obtain ⟨z, hz, _⟩ := DataW.trod_int Tryd.underlying3 ht; exact ⟨z, by rw [List.cons.inj hz |>.1] at hc; exact hc⟩
      | 7, _ => obtain ⟨v, y, n', hc, ht⟩ := hh _ rfl; obtain ⟨z, hz, _⟩ := DataW.trod_int Tryd.underlying3 ht; exact ⟨z, by rw [List.cons.inj hz |>.1] at hc; exact hc⟩
      | 8, _ => obtain ⟨v, y, n', hc, ht⟩ := hh _ rfl; obtain ⟨z, hz, _⟩ := DataW.trod_int Tryd.underlying3 ht; exact ⟨z, by rw [List.cons.inj hz |>.1] at hc; exact hc⟩
      | j + 9, hj => omega
    obtain ⟨zs, hzl, hz⟩ := list_of (n * 9) (fun i z => W.cell? (a.add i) = some (.int .i64 z)) each
    refine ⟨some a, n, c, zs, rfl, by omega, ⟨hzl, fun hn => ?_⟩⟩
    obtain ⟨b, off, rfl, hat⟩ := ints_at (a := a) (k := .i64) (zs := zs) (fun i hi' => hz i (by omega)) (by omega)
    exact ⟨b, off, rfl, World.block_lt_of_cell? W _ (hat 0 (by omega)), fun i hi' => hat i (by omega)⟩
end Go.Proofs.YtffggmjhaaehlaaDoor
