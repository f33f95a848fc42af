/- A property of the first numbers, as a truth value. No condition. -/
import Derived.Test.YtpkajdnndognnaaSts
namespace Go.Proofs.Ytpkajdnndognnaa
open Go.RowKit

def allTo (n : Nat) (p : Nat → Bool) : Bool := decide (∀ k, k < n → p k = true)
theorem allTo_iff {n : Nat} {p : Nat → Bool} : allTo n p = true ↔ ∀ k, k < n → p k = true := by unfold allTo; simp
theorem allTo_no {n k : Nat} {p : Nat → Bool} (hk : k < n) (h : p k = false) : allTo n p = false := by
  rw [Bool.eq_false_iff]; intro h2; rw [allTo_iff.1 h2 k hk] at h; cases h
theorem allTo_step {k : Nat} {p : Nat → Bool} (h : ∀ j, j < k → p j = true) (h2 : p k = true) : ∀ j, j < k + 1 → p j = true := fun j hj => by
  by_cases e : j = k
  · subst e; exact h2
  · exact h j (by omega)
/-- Field f of structs of m numbers, one after another. -/
def colL (m f n : Nat) (zs : List Int) : List Int := (List.range n).map fun k => zs.getD (k * m + f) 0
theorem colL_len (m f n : Nat) (zs : List Int) : (colL m f n zs).length = n := by simp [colL]
theorem colL_at (m f n : Nat) (zs : List Int) (k : Nat) (h : k < n) : (colL m f n zs).getD k 0 = zs.getD (k * m + f) 0 := by simp [colL, h]
theorem colL_take (m f n : Nat) (zs : List Int) (k : Nat) (h : k ≤ n) : (colL m f n zs).take k = colL m f k zs := by
  unfold colL
  rw [← List.map_take, List.take_range, Nat.min_eq_left h]
theorem colL_mem {m f n : Nat} {zs : List Int} {z : Int} (h : z ∈ colL m f n zs) : ∃ k, k < n ∧ z = zs.getD (k * m + f) 0 := by
  obtain ⟨k, hk, e⟩ := List.mem_map.1 h
  exact ⟨k, List.mem_range.1 hk, e.symm⟩
theorem sumL_le : ∀ {xs : List Int} {M : Int}, (∀ z ∈ xs, z ≤ M) → xs.sum ≤ M * (xs.length : Int)
  | [], _, _ => by simp
  | x :: xs, M, h => by
    have h1 := h x (by simp)
    have h2 := sumL_le (xs := xs) (M := M) fun z hz => h z (by simp [hz])
    rw [List.sum_cons, List.length_cons, Int.natCast_add, Int.mul_add]
    omega
/-- The first k entries are those of a, the others those of b. -/
def mixL (a b : List Int) (k : Nat) : List Int := a.take k ++ b.drop k
section
variable {a b : List Int} {k : Nat}
theorem mixL_zero (a b : List Int) : mixL a b 0 = b := by simp [mixL]
theorem mixL_len (h : a.length = b.length) (hk : k ≤ a.length) : (mixL a b k).length = b.length := by simp [mixL]; omega
theorem mixL_at (h : a.length = b.length) (hk : k < a.length) : (mixL a b k).getD k 0 = b.getD k 0 := by
  have e : (a.take k).length = k := by rw [List.length_take]; omega
  unfold mixL
  rw [List.getD_eq_getElem?_getD, List.getElem?_append_right (by omega), e, Nat.sub_self, List.getElem?_drop, Nat.add_zero, ← List.getD_eq_getElem?_getD]
theorem mixL_step (h : a.length = b.length) (hk : k < a.length) : (mixL a b k).set k (a.getD k 0) = mixL a b (k + 1) := by
  have e : (a.take k).length = k := by rw [List.length_take]; omega
  unfold mixL
  rw [List.set_append_right _ _ (by omega), e, Nat.sub_self, take_snoc_i hk, List.drop_eq_getElem_cons (show k < b.length by omega), List.set_cons_zero, List.append_assoc]
  rfl
theorem mixL_all (h : a.length = b.length) : mixL a b a.length = a := by
  unfold mixL
  rw [List.take_of_length_le (Nat.le_refl _), List.drop_eq_nil_of_le (by omega), List.append_nil]
end
end Go.Proofs.Ytpkajdnndognnaa
