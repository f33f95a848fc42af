/- The helpers of the exact laws on slices of Rect: copied, measured, compared and marked. Conditions: the slices can be read, or lie in a block of the call's own. -/
import Derived.Test.YtnipnemhbelcaaaSts
namespace Go.Proofs.Ytnipnemhbelcaaa
open Go.RowKit

theorem zeroRect (i : Nat) : (#[Value.int .i64 0, Value.int .i64 0, Value.int .i64 0, Value.int .i64 0] : Array Value)[i % (#[Value.int .i64 0, Value.int .i64 0, Value.int .i64 0, Value.int .i64 0] : Array Value).size]! = .int .i64 0 := by
  have h : i % 4 < 4 := Nat.mod_lt _ (by omega)
  have hs : (#[Value.int .i64 0, Value.int .i64 0, Value.int .i64 0, Value.int .i64 0] : Array Value).size = 4 := rfl
  rw [hs]
  generalize i % 4 = j at h
  match j, h with
  | 0, _ => rfl
  | 1, _ => rfl
  | 2, _ => rfl
  | 3, _ => rfl
  | j + 4, h => omega
theorem rowRect_step {w2 : World} {g k n : Nat} {xs : List Int} (r : Row w2 g (upTo (k * 4) xs)) (hx : xs.length = n * 4) (hlt : k < n) : Row ((((w2.setCell ⟨g, k * 4, none⟩ (.int .i64 (xs.getD (k * 4) 0))).setCell ⟨g, k * 4 + 1, none⟩ (.int .i64 (xs.getD (k * 4 + 1) 0))).setCell ⟨g, k * 4 + 2, none⟩ (.int .i64 (xs.getD (k * 4 + 2) 0))).setCell ⟨g, k * 4 + 3, none⟩ (.int .i64 (xs.getD (k * 4 + 3) 0))) g (upTo ((k + 1) * 4) xs) := by
  have lq : ∀ j, j < 4 → k * 4 + j < xs.length := fun j hj => by rw [hx]; exact idx_lt hlt hj
  have r := r.set_ (k := k * 4) (by rw [upTo_len _ _ (by have := lq 0 (by omega); omega)]; exact lq 0 (by omega)) (xs.getD (k * 4) 0)
  rw [upTo_step (k * 4) xs (by have := lq 0 (by omega); omega)] at r
  have r := r.set_ (k := k * 4 + 1) (by rw [upTo_len _ _ (by have := lq 1 (by omega); omega)]; exact lq 1 (by omega)) (xs.getD (k * 4 + 1) 0)
  rw [upTo_step (k * 4 + 1) xs (by have := lq 1 (by omega); omega)] at r
  have r := r.set_ (k := k * 4 + 2) (by rw [upTo_len _ _ (by have := lq 2 (by omega); omega)]; exact lq 2 (by omega)) (xs.getD (k * 4 + 2) 0)
  rw [upTo_step (k * 4 + 2) xs (by have := lq 2 (by omega); omega)] at r
  have r := r.set_ (k := k * 4 + 3) (by rw [upTo_len _ _ (by have := lq 3 (by omega); omega)]; exact lq 3 (by omega)) (xs.getD (k * 4 + 3) 0)
  rw [upTo_step (k * 4 + 3) xs (by have := lq 3 (by omega); omega)] at r
  rw [Nat.add_mul, Nat.one_mul]
  exact r
end Go.Proofs.Ytnipnemhbelcaaa
