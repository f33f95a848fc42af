/- Plain facts about rows of rectangles: when all are valid, at which numbers two rows differ. No condition. -/
import Derived.Test.YtckdokijmlpngaaUpB
import Derived.Test.YtckdokijmlpngaaMath
namespace Go.Proofs.Ytckdokijmlpngaa
open Go.RowKit

/-- The k-th rectangle of a row is valid. -/
def rOk (zs : List Int) (k : Nat) : Bool := vR (zs.getD (k * 4) 0) (zs.getD (k * 4 + 1) 0) (zs.getD (k * 4 + 2) 0) (zs.getD (k * 4 + 3) 0)
/-- There are at most so many rectangles, all of them valid. -/
def rsB (most : Int) (n : Nat) (zs : List Int) : Bool := decide ((n : Int) ≤ most) && allTo n (rOk zs)
theorem rsB_iff {most : Int} {n : Nat} {zs : List Int} : rsB most n zs = true ↔ (n : Int) ≤ most ∧ ∀ k, k < n → rOk zs k = true := by
  unfold rsB; rw [Bool.and_eq_true, allTo_iff, decide_eq_true_iff]
/-- Two rows have the same rectangle at k. -/
def same4 (xs ys : List Int) (k : Nat) : Bool := decide (xs.getD (k * 4) 0 = ys.getD (k * 4) 0 ∧ xs.getD (k * 4 + 1) 0 = ys.getD (k * 4 + 1) 0 ∧ xs.getD (k * 4 + 2) 0 = ys.getD (k * 4 + 2) 0 ∧ xs.getD (k * 4 + 3) 0 = ys.getD (k * 4 + 3) 0)
/-- The numbers below k at which two rows differ. -/
def chgTo (xs ys : List Int) (k : Nat) : List Int := ((List.range k).filter fun i => !(same4 xs ys i)).map fun (i : Nat) => (i : Int)
def chgOk (n m : Nat) (xs ys : List Int) : Bool := decide (n = m) && (rsB 16 n xs && rsB 16 m ys)
def chgA (n m : Nat) (xs ys : List Int) : List Int := if chgOk n m xs ys then chgTo xs ys n else []
theorem chgOk_iff {n m : Nat} {xs ys : List Int} : chgOk n m xs ys = true ↔ n = m ∧ rsB 16 n xs = true ∧ rsB 16 m ys = true := by
  unfold chgOk; rw [Bool.and_eq_true, Bool.and_eq_true, decide_eq_true_iff]
theorem chgTo_len (xs ys : List Int) (k : Nat) : (chgTo xs ys k).length ≤ k := by
  unfold chgTo; rw [List.length_map]; have := List.length_filter_le (fun i => !(same4 xs ys i)) (List.range k); rwa [List.length_range] at this
theorem chgTo_yes {xs ys : List Int} {k : Nat} (h : same4 xs ys k = false) : chgTo xs ys (k + 1) = chgTo xs ys k ++ [(k : Int)] := by
  unfold chgTo
  rw [List.range_succ, List.filter_append, List.filter_cons_of_pos (by rw [h]; rfl), List.map_append]; rfl
theorem chgTo_no {xs ys : List Int} {k : Nat} (h : same4 xs ys k = true) : chgTo xs ys (k + 1) = chgTo xs ys k := by
  unfold chgTo
  rw [List.range_succ, List.filter_append, List.filter_cons_of_neg (by rw [h]; simp), List.map_append]; simp
theorem chgTo_mem {xs ys : List Int} {k : Nat} {z : Int} : z ∈ chgTo xs ys k ↔ ∃ i : Nat, i < k ∧ same4 xs ys i = false ∧ z = (i : Int) := by
  unfold chgTo
  rw [List.mem_map]
  constructor
  · rintro ⟨i, hi, e⟩
    obtain ⟨h1, h2⟩ := List.mem_filter.1 hi
    exact ⟨i, List.mem_range.1 h1, by simpa using h2, e.symm⟩
  · rintro ⟨i, h1, h2, e⟩
    exact ⟨i, List.mem_filter.2 ⟨List.mem_range.2 h1, by rw [h2]; rfl⟩, e.symm⟩
theorem chgA_len (n m : Nat) (xs ys : List Int) : (chgA n m xs ys).length ≤ 16 := by
  unfold chgA
  split
  · next h => have := chgTo_len xs ys n; have := (rsB_iff.1 (chgOk_iff.1 h).2.1).1; omega
  · simp
theorem same4_comm (xs ys : List Int) (k : Nat) : same4 xs ys k = same4 ys xs k := by
  unfold same4; rw [Bool.eq_iff_iff, decide_eq_true_iff, decide_eq_true_iff]; constructor <;> (rintro ⟨a, b, c, d⟩; exact ⟨a.symm, b.symm, c.symm, d.symm⟩)
theorem same4_self (xs : List Int) (k : Nat) : same4 xs xs k = true := by unfold same4; simp
theorem chgTo_comm (xs ys : List Int) (k : Nat) : chgTo xs ys k = chgTo ys xs k := by
  unfold chgTo; congr 1; congr 1; funext i; rw [same4_comm]
theorem chgA_comm (n m : Nat) (xs ys : List Int) : chgA n m xs ys = chgA m n ys xs := by
  unfold chgA
  have e : chgOk n m xs ys = chgOk m n ys xs := by
    rw [Bool.eq_iff_iff, chgOk_iff, chgOk_iff]; constructor <;> (rintro ⟨a, b, c⟩; exact ⟨a.symm, c, b⟩)
  rw [e]
  split
  · next h => rw [(chgOk_iff.1 h).1, chgTo_comm]
  · rfl
theorem chgA_self (n : Nat) (xs : List Int) : chgA n n xs xs = [] := by
  unfold chgA
  split
  · apply List.eq_nil_iff_forall_not_mem.2
    intro z hz
    obtain ⟨i, _, h, _⟩ := chgTo_mem.1 hz
    rw [same4_self] at h; cases h
  · rfl
end Go.Proofs.Ytckdokijmlpngaa
