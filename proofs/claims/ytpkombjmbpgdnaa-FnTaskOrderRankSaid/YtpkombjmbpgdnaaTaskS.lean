/- The helpers of the exact laws on slices of Task: copied, measured, compared and marked. Conditions: the slices can be read, or lie in a block of the call's own. -/
import Derived.Test.YtpkombjmbpgdnaaSts
namespace Go.Proofs.Ytpkombjmbpgdnaa
open Go.RowKit

theorem mkTask (n : Nat) (hn : n ≤ 1048576) (W : World) : (Instr.makeSlice 23 (.int .i64 (n : Int)) (.int .i64 (n : Int))).run Try.prog W = .ok (.slice (some ⟨W.heap.size, 0, none⟩) n n) (W.alloc (.cells (madeCells #[Value.int .i64 0, Value.int .i64 0, Value.int .i64 0] (n * 3)) 30)) := by
  have hinfo : (Try.prog.info? 30).map (fun i => (i.zero, i.size, i.bytes)) = some (some (.agg #[Value.int .i64 0, Value.int .i64 0, Value.int .i64 0]), 3, 24) := by kernel_rfl
  obtain ⟨i, hi, hzz⟩ := Option.map_eq_some_iff.1 hinfo
  simp only [Prod.mk.injEq] at hzz
  obtain ⟨hz, hs, hb⟩ := hzz
  have h := run_make (P := Try.prog) W 23 30 i (.agg #[Value.int .i64 0, Value.int .i64 0, Value.int .i64 0]) Try.underlying23 hi hz .i64 .i64 (n : Int) (n : Int) (by omega) (by omega) (by rw [hb]; omega) (by omega)
  rw [hs] at h
  exact h
theorem zeroTask (i : Nat) : (#[Value.int .i64 0, Value.int .i64 0, Value.int .i64 0] : Array Value)[i % (#[Value.int .i64 0, Value.int .i64 0, Value.int .i64 0] : Array Value).size]! = .int .i64 0 := by
  have h : i % 3 < 3 := Nat.mod_lt _ (by omega)
  have hs : (#[Value.int .i64 0, Value.int .i64 0, Value.int .i64 0] : Array Value).size = 3 := rfl
  rw [hs]
  generalize i % 3 = j at h
  match j, h with
  | 0, _ => rfl
  | 1, _ => rfl
  | 2, _ => rfl
  | j + 3, h => omega
theorem rowTask_step {w2 : World} {g k n : Nat} {xs : List Int} (r : Row w2 g (upTo (k * 3) xs)) (hx : xs.length = n * 3) (hlt : k < n) : Row (((w2.setCell ⟨g, k * 3, none⟩ (.int .i64 (xs.getD (k * 3) 0))).setCell ⟨g, k * 3 + 1, none⟩ (.int .i64 (xs.getD (k * 3 + 1) 0))).setCell ⟨g, k * 3 + 2, none⟩ (.int .i64 (xs.getD (k * 3 + 2) 0))) g (upTo ((k + 1) * 3) xs) := by
  have lq : ∀ j, j < 3 → k * 3 + j < xs.length := fun j hj => by rw [hx]; exact idx_lt hlt hj
  have r := r.set_ (k := k * 3) (by rw [upTo_len _ _ (by have := lq 0 (by omega); omega)]; exact lq 0 (by omega)) (xs.getD (k * 3) 0)
  rw [upTo_step (k * 3) xs (by have := lq 0 (by omega); omega)] at r
  have r := r.set_ (k := k * 3 + 1) (by rw [upTo_len _ _ (by have := lq 1 (by omega); omega)]; exact lq 1 (by omega)) (xs.getD (k * 3 + 1) 0)
  rw [upTo_step (k * 3 + 1) xs (by have := lq 1 (by omega); omega)] at r
  have r := r.set_ (k := k * 3 + 2) (by rw [upTo_len _ _ (by have := lq 2 (by omega); omega)]; exact lq 2 (by omega)) (xs.getD (k * 3 + 2) 0)
  rw [upTo_step (k * 3 + 2) xs (by have := lq 2 (by omega); omega)] at r
  rw [Nat.add_mul, Nat.one_mul]
  exact r
end Go.Proofs.Ytpkombjmbpgdnaa
