/- Parts, as they come in: a slice of structs that can be read. No condition. -/
import Derived.Test.YtpkajdnndognnaaRowF
import Derived.Test.YtpkajdnndognnaaPrtS
namespace Go.Proofs.Ytpkajdnndognnaa
open Go.ChangeShapes Go.WideShapes Go.ChangeAt Go.RowKit Go.Deep

set_option maxRecDepth 100000 in
theorem open_PartS {H : Type} {enc : TypeId × Value → H} {W : World} {r : Reach} {b0 : Nat} {v : Value} {d : DataW H} {p : List MemPlace}
    (hv : Value.okWide Try.prog W r b0 22 v) (h : DataW.Trod enc Try.prog W 0 (fun _ => true) true 22 v d p) :
    ∃ (A : Option Addr) (n c : Nat) (xs : List Int), v = .slice A n c ∧ n ≤ maxLen ∧ Sts 2 W A n xs := by
  obtain ⟨A, n, c, rfl⟩ := okWide_slice Try.underlying22 hv
  obtain ⟨fuel, hf⟩ := h
  rcases open_cells Try.underlying22 Try.underlying57 (by kernel_rfl) (by kernel_rfl) hf with hcs | ⟨a, len, cap, hcs, hl, hm, hi⟩
  · simp [Value.cells] at hcs
    obtain ⟨rfl, rfl, rfl⟩ := hcs
    exact ⟨none, 0, 0, [], rfl, Nat.zero_le _, ⟨rfl, fun hh => absurd hh (by omega)⟩⟩
  · simp [Value.cells] at hcs
    obtain ⟨rfl, rfl, rfl⟩ := hcs
    have each : ∀ i, i < n * 2 → ∃ z, W.cell? (a.add i) = some (.int .i64 z) := fun i hlt => by
      have hj : i % 2 < 2 := Nat.mod_lt _ (by omega)
      have hk : i / 2 < n := Nat.div_lt_of_lt_mul (by rw [Nat.mul_comm]; exact hlt)
      have e : i / 2 * 2 + i % 2 = i := by rw [Nat.mul_comm]; exact Nat.div_add_mod i 2
      have hh := hi (i / 2) hk (i % 2)
      generalize i % 2 = j at hj hh e
      rw [← e]
      match j, hj with
      | 0, _ => obtain ⟨v, y, n', hc, ht⟩ := hh _ rfl; obtain ⟨z, hz, _⟩ := DataW.trod_int Try.underlying3 ht; exact ⟨z, by rw [List.cons.inj hz |>.1] at hc; exact hc⟩
      | 1, _ => obtain ⟨v, y, n', hc, ht⟩ := hh _ rfl; obtain ⟨z, hz, _⟩ := DataW.trod_int Try.underlying3 ht; exact ⟨z, by rw [List.cons.inj hz |>.1] at hc; exact hc⟩
      | j + 2, hj => omega
    obtain ⟨zs, hzl, hz⟩ := list_of (n * 2) (fun i z => W.cell? (a.add i) = some (.int .i64 z)) each
    refine ⟨some a, n, c, zs, rfl, by omega, ⟨hzl, fun hn => ?_⟩⟩
    obtain ⟨b, off, rfl, hat⟩ := ints_at (a := a) (k := .i64) (zs := zs) (fun i hi' => hz i (by omega)) (by omega)
    exact ⟨b, off, rfl, World.block_lt_of_cell? W _ (hat 0 (by omega)), fun i hi' => hat i (by omega)⟩
end Go.Proofs.Ytpkajdnndognnaa
