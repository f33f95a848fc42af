/- The helpers of the exact laws on slices of Part: copied, measured, compared and marked. Conditions: the slices can be read, or lie in a block of the call's own. -/
import Derived.Test.YtlmamglckamjjaaSts
namespace Go.Proofs.Ytlmamglckamjjaa
open Go.RowKit

theorem mkPart (n : Nat) (hn : n ≤ 1048576) (W : World) : (Instr.makeSlice 32 (.int .i64 (n : Int)) (.int .i64 (n : Int))).run Try.prog W = .ok (.slice (some ⟨W.heap.size, 0, none⟩) n n) (W.alloc (.cells (madeCells #[Value.int .i64 0, Value.int .i64 0] (n * 2)) 38)) := by
  have hinfo : (Try.prog.info? 38).map (fun i => (i.zero, i.size, i.bytes)) = some (some (.agg #[Value.int .i64 0, Value.int .i64 0]), 2, 16) := by kernel_rfl
  obtain ⟨i, hi, hzz⟩ := Option.map_eq_some_iff.1 hinfo
  simp only [Prod.mk.injEq] at hzz
  obtain ⟨hz, hs, hb⟩ := hzz
  have h := run_make (P := Try.prog) W 32 38 i (.agg #[Value.int .i64 0, Value.int .i64 0]) Try.underlying32 hi hz .i64 .i64 (n : Int) (n : Int) (by omega) (by omega) (by rw [hb]; omega) (by omega)
  rw [hs] at h
  exact h
theorem zeroPart (i : Nat) : (#[Value.int .i64 0, Value.int .i64 0] : Array Value)[i % (#[Value.int .i64 0, Value.int .i64 0] : Array Value).size]! = .int .i64 0 := by
  have h : i % 2 < 2 := Nat.mod_lt _ (by omega)
  have hs : (#[Value.int .i64 0, Value.int .i64 0] : Array Value).size = 2 := rfl
  rw [hs]
  generalize i % 2 = j at h
  match j, h with
  | 0, _ => rfl
  | 1, _ => rfl
  | j + 2, h => omega
theorem rowPart_step {w2 : World} {g k n : Nat} {xs : List Int} (r : Row w2 g (upTo (k * 2) xs)) (hx : xs.length = n * 2) (hlt : k < n) : Row ((w2.setCell ⟨g, k * 2, none⟩ (.int .i64 (xs.getD (k * 2) 0))).setCell ⟨g, k * 2 + 1, none⟩ (.int .i64 (xs.getD (k * 2 + 1) 0))) g (upTo ((k + 1) * 2) xs) := by
  have lq : ∀ j, j < 2 → k * 2 + j < xs.length := fun j hj => by rw [hx]; exact idx_lt hlt hj
  have r := r.set_ (k := k * 2) (by rw [upTo_len _ _ (by have := lq 0 (by omega); omega)]; exact lq 0 (by omega)) (xs.getD (k * 2) 0)
  rw [upTo_step (k * 2) xs (by have := lq 0 (by omega); omega)] at r
  have r := r.set_ (k := k * 2 + 1) (by rw [upTo_len _ _ (by have := lq 1 (by omega); omega)]; exact lq 1 (by omega)) (xs.getD (k * 2 + 1) 0)
  rw [upTo_step (k * 2 + 1) xs (by have := lq 1 (by omega); omega)] at r
  rw [Nat.add_mul, Nat.one_mul]
  exact r
end Go.Proofs.Ytlmamglckamjjaa
