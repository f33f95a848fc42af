/- The helpers of the exact laws on slices of Box: copied, measured, compared and marked. Conditions: the slices can be read, or lie in a block of the call's own. -/
import Derived.Test.YtnihklilappimaaSts
namespace Go.Proofs.Ytnihklilappimaa
open Go.RowKit

theorem mkBox (n : Nat) (hn : n ≤ 1048576) (W : World) : (Instr.makeSlice 23 (.int .i64 (n : Int)) (.int .i64 (n : Int))).run Try.prog W = .ok (.slice (some ⟨W.heap.size, 0, none⟩) n n) (W.alloc (.cells (madeCells #[Value.int .i64 0, Value.int .i64 0, Value.int .i64 0, Value.int .i64 0, Value.int .i64 0, Value.int .i64 0, Value.int .i64 0, Value.int .i64 0, Value.int .i64 0] (n * 9)) 36)) := by
  have hinfo : (Try.prog.info? 36).map (fun i => (i.zero, i.size, i.bytes)) = some (some (.agg #[Value.int .i64 0, Value.int .i64 0, Value.int .i64 0, Value.int .i64 0, Value.int .i64 0, Value.int .i64 0, Value.int .i64 0, Value.int .i64 0, Value.int .i64 0]), 9, 72) := by kernel_rfl
  obtain ⟨i, hi, hzz⟩ := Option.map_eq_some_iff.1 hinfo
  simp only [Prod.mk.injEq] at hzz
  obtain ⟨hz, hs, hb⟩ := hzz
  have h := run_make (P := Try.prog) W 23 36 i (.agg #[Value.int .i64 0, Value.int .i64 0, Value.int .i64 0, Value.int .i64 0, Value.int .i64 0, Value.int .i64 0, Value.int .i64 0, Value.int .i64 0, Value.int .i64 0]) Try.underlying23 hi hz .i64 .i64 (n : Int) (n : Int) (by omega) (by omega) (by rw [hb]; omega) (by omega)
  rw [hs] at h
  exact h
theorem zeroBox (i : Nat) : (#[Value.int .i64 0, Value.int .i64 0, Value.int .i64 0, Value.int .i64 0, Value.int .i64 0, Value.int .i64 0, Value.int .i64 0, Value.int .i64 0, Value.int .i64 0] : Array Value)[i % (#[Value.int .i64 0, Value.int .i64 0, Value.int .i64 0, Value.int .i64 0, Value.int .i64 0, Value.int .i64 0, Value.int .i64 0, Value.int .i64 0, Value.int .i64 0] : Array Value).size]! = .int .i64 0 := by
  have h : i % 9 < 9 := Nat.mod_lt _ (by omega)
  have hs : (#[Value.int .i64 0, Value.int .i64 0, Value.int .i64 0, Value.int .i64 0, Value.int .i64 0, Value.int .i64 0, Value.int .i64 0, Value.int .i64 0, Value.int .i64 0] : Array Value).size = 9 := rfl
  rw [hs]
  generalize i % 9 = j at h
  match j, h with
  | 0, _ => rfl
  | 1, _ => rfl
  | 2, _ => rfl
  | 3, _ => rfl
  | 4, _ => rfl
  | 5, _ => rfl
  | 6, _ => rfl
  | 7, _ => rfl
  | 8, _ => rfl
  | j + 9, h => omega
theorem rowBox_step {w2 : World} {g k n : Nat} {xs : List Int} (r : Row w2 g (upTo (k * 9) xs)) (hx : xs.length = n * 9) (hlt : k < n) : Row (((((((((w2.setCell ⟨g, k * 9, none⟩ (.int .i64 (xs.getD (k * 9) 0))).setCell ⟨g, k * 9 + 1, none⟩ (.int .i64 (xs.getD (k * 9 + 1) 0))).setCell ⟨g, k * 9 + 2, none⟩ (.int .i64 (xs.getD (k * 9 + 2) 0))).setCell ⟨g, k * 9 + 3, none⟩ (.int .i64 (xs.getD (k * 9 + 3) 0))).setCell ⟨g, k * 9 + 4, none⟩ (.int .i64 (xs.getD (k * 9 + 4) 0))).setCell ⟨g, k * 9 + 5, none⟩ (.int .i64 (xs.getD (k * 9 + 5) 0))).setCell ⟨g, k * 9 + 6, none⟩ (.int .i64 (xs.getD (k * 9 + 6) 0))).setCell ⟨g, k * 9 + 7, none⟩ (.int .i64 (xs.getD (k * 9 + 7) 0))).setCell ⟨g, k * 9 + 8, none⟩ (.int .i64 (xs.getD (k * 9 + 8) 0))) g (upTo ((k + 1) * 9) xs) := by
  have lq : ∀ j, j < 9 → k * 9 + j < xs.length := fun j hj => by rw [hx]; exact idx_lt hlt hj
  have r := r.set_ (k := k * 9) (by rw [upTo_len _ _ (by have := lq 0 (by omega); omega)]; exact lq 0 (by omega)) (xs.getD (k * 9) 0)
  rw [upTo_step (k * 9) xs (by have := lq 0 (by omega); omega)] at r
  have r := r.set_ (k := k * 9 + 1) (by rw [upTo_len _ _ (by have := lq 1 (by omega); omega)]; exact lq 1 (by omega)) (xs.getD (k * 9 + 1) 0)
  rw [upTo_step (k * 9 + 1) xs (by have := lq 1 (by omega); omega)] at r
  have r := r.set_ (k := k * 9 + 2) (by rw [upTo_len _ _ (by have := lq 2 (by omega); omega)]; exact lq 2 (by omega)) (xs.getD (k * 9 + 2) 0)
  rw [upTo_step (k * 9 + 2) xs (by have := lq 2 (by omega); omega)] at r
  have r := r.set_ (k := k * 9 + 3) (by rw [upTo_len _ _ (by have := lq 3 (by omega); omega)]; exact lq 3 (by omega)) (xs.getD (k * 9 + 3) 0)
  rw [upTo_step (k * 9 + 3) xs (by have := lq 3 (by omega); omega)] at r
  have r := r.set_ (k := k * 9 + 4) (by rw [upTo_len _ _ (by have := lq 4 (by omega); omega)]; exact lq 4 (by omega)) (xs.getD (k * 9 + 4) 0)
  rw [upTo_step (k * 9 + 4) xs (by have := lq 4 (by omega); omega)] at r
  have r := r.set_ (k := k * 9 + 5) (by rw [upTo_len _ _ (by have := lq 5 (by omega); omega)]; exact lq 5 (by omega)) (xs.getD (k * 9 + 5) 0)
  rw [upTo_step (k * 9 + 5) xs (by have := lq 5 (by omega); omega)] at r
  have r := r.set_ (k := k * 9 + 6) (by rw [upTo_len _ _ (by have := lq 6 (by omega); omega)]; exact lq 6 (by omega)) (xs.getD (k * 9 + 6) 0)
  rw [upTo_step (k * 9 + 6) xs (by have := lq 6 (by omega); omega)] at r
  have r := r.set_ (k := k * 9 + 7) (by rw [upTo_len _ _ (by have := lq 7 (by omega); omega)]; exact lq 7 (by omega)) (xs.getD (k * 9 + 7) 0)
  rw [upTo_step (k * 9 + 7) xs (by have := lq 7 (by omega); omega)] at r
  have r := r.set_ (k := k * 9 + 8) (by rw [upTo_len _ _ (by have := lq 8 (by omega); omega)]; exact lq 8 (by omega)) (xs.getD (k * 9 + 8) 0)
  rw [upTo_step (k * 9 + 8) xs (by have := lq 8 (by omega); omega)] at r
  rw [Nat.add_mul, Nat.one_mul]
  exact r
end Go.Proofs.Ytnihklilappimaa
