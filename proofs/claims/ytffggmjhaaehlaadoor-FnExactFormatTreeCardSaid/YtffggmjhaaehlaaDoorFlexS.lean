/- The helpers of the exact laws on slices of Flex: copied, measured, compared and marked. Conditions: the slices can be read, or lie in a block of the call's own. -/
import Derived.Test.YtffggmjhaaehlaaDoorSts
namespace Go.Proofs.YtffggmjhaaehlaaDoor
open Go.RowKit

theorem zeroFlex (i : Nat) : (#[Value.int .i64 0, Value.int .i64 0, Value.int .i64 0, Value.int .i64 0, Value.int .i64 0] : Array Value)[i % (#[Value.int .i64 0, Value.int .i64 0, Value.int .i64 0, Value.int .i64 0, Value.int .i64 0] : Array Value).size]! = .int .i64 0 := by
  have h : i % 5 < 5 := Nat.mod_lt _ (by omega)
  have hs : (#[Value.int .i64 0, Value.int .i64 0, Value.int .i64 0, Value.int .i64 0, Value.int .i64 0] : Array Value).size = 5 := rfl
  rw [hs]
  generalize i % 5 = j at h
  match j, h with
  | 0, _ => rfl
  | 1, _ => rfl
  | 2, _ => rfl
  | 3, _ => rfl
  | 4, _ => rfl
  | j + 5, h => omega
theorem rowFlex_step {w2 : World} {g k n : Nat} {xs : List Int} (r : Row w2 g (upTo (k * 5) xs)) (hx : xs.length = n * 5) (hlt : k < n) : Row (((((w2.setCell ⟨g, k * 5, none⟩ (.int .i64 (xs.getD (k * 5) 0))).setCell ⟨g, k * 5 + 1, none⟩ (.int .i64 (xs.getD (k * 5 + 1) 0))).setCell ⟨g, k * 5 + 2, none⟩ (.int .i64 (xs.getD (k * 5 + 2) 0))).setCell ⟨g, k * 5 + 3, none⟩ (.int .i64 (xs.getD (k * 5 + 3) 0))).setCell ⟨g, k * 5 + 4, none⟩ (.int .i64 (xs.getD (k * 5 + 4) 0))) g (upTo ((k + 1) * 5) xs) := by
  have lq : ∀ j, j < 5 → k * 5 + j < xs.length := fun j hj => by rw [hx]; exact idx_lt hlt hj
  have r := r.set_ (k := k * 5) (by rw [upTo_len _ _ (by have := lq 0 (by omega); omega)]; exact lq 0 (by omega)) (xs.getD (k * 5) 0)
  rw [upTo_step (k * 5) xs (by have := lq 0 (by omega); omega)] at r
  have r := r.set_ (k := k * 5 + 1) (by rw [upTo_len _ _ (by have := lq 1 (by omega); omega)]; exact lq 1 (by omega)) (xs.getD (k * 5 + 1) 0)
  rw [upTo_step (k * 5 + 1) xs (by have := lq 1 (by omega); omega)] at r
  have r := r.set_ (k := k * 5 + 2) (by rw [upTo_len _ _ (by have := lq 2 (by omega); omega)]; exact lq 2 (by omega)) (xs.getD (k * 5 + 2) 0)
  rw [upTo_step (k * 5 + 2) xs (by have := lq 2 (by omega); omega)] at r
  have r := r.set_ (k := k * 5 + 3) (by rw [upTo_len _ _ (by have := lq 3 (by omega); omega)]; exact lq 3 (by omega)) (xs.getD (k * 5 + 3) 0)
  rw [upTo_step (k * 5 + 3) xs (by have := lq 3 (by omega); omega)] at r
  have r := r.set_ (k := k * 5 + 4) (by rw [upTo_len _ _ (by have := lq 4 (by omega); omega)]; exact lq 4 (by omega)) (xs.getD (k * 5 + 4) 0)
  rw [upTo_step (k * 5 + 4) xs (by have := lq 4 (by omega); omega)] at r
  rw [Nat.add_mul, Nat.one_mul]
  exact r
end Go.Proofs.YtffggmjhaaehlaaDoor
