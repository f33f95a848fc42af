/- Plain facts on spans of tracks: where they begin, and how large they are. No condition. -/
import Derived.Test.YtcoddhlfhmelkaaTrkM
namespace Go.Proofs.Ytcoddhlfhmelkaa
open Go.RowKit

/-- Where sizes begin one behind the other, with a gap behind each, and where one more would begin. -/
def bgL (xs : List Int) (gap : Int) : List Int := (List.range (xs.length + 1)).map fun k => (xs.take k).sum + gap * (k : Int)
theorem bgL_len (xs : List Int) (gap : Int) : (bgL xs gap).length = xs.length + 1 := by simp [bgL]
theorem bgL_at (xs : List Int) (gap : Int) (k : Nat) (h : k ≤ xs.length) : (bgL xs gap).getD k 0 = (xs.take k).sum + gap * (k : Int) := by simp [bgL, show k < xs.length + 1 by omega]
theorem bgL_step (xs : List Int) (gap : Int) (k : Nat) (h : k < xs.length) : (bgL xs gap).getD (k + 1) 0 = (bgL xs gap).getD k 0 + xs.getD k 0 + gap := by
  rw [bgL_at xs gap (k + 1) (by omega), bgL_at _ _ _ (Nat.le_of_lt h), sum_snoc h, Int.natCast_add, Int.mul_add]
  omega
theorem upTo_old (k j : Nat) (xs : List Int) (h : j < k) (hk : k ≤ xs.length) : (upTo k xs).getD j 0 = xs.getD j 0 := by
  unfold upTo
  rw [List.getD_eq_getElem?_getD, List.getElem?_append_left (by rw [List.length_take]; omega), List.getElem?_take_of_lt h, ← List.getD_eq_getElem?_getD]
theorem upTo_one (xs : List Int) (h : xs.getD 0 0 = 0) : upTo 1 xs = List.replicate xs.length 0 := by
  cases xs with
  | nil => rfl
  | cons x xs =>
    have e : x = 0 := h
    subst e
    simp [upTo, List.replicate_succ]
def spOk (xs : List Int) (f m : Int) : Bool := decide (0 ≤ f ∧ f ≤ (xs.length : Int) - 1) && decide (1 ≤ m ∧ m ≤ (xs.length : Int) - f)
def spA (xs : List Int) (gap f m : Int) : Int := if spOk xs f m = true then (xs.take f.toNat).sum + gap * f else 0
def spS (xs : List Int) (gap f m : Int) : Int := if spOk xs f m = true then ((xs.drop f.toNat).take m.toNat).sum + gap * (m - 1) else 0
theorem spOk_iff {xs : List Int} {f m : Int} : spOk xs f m = true ↔ (0 ≤ f ∧ f ≤ (xs.length : Int) - 1) ∧ (1 ≤ m ∧ m ≤ (xs.length : Int) - f) := by
  unfold spOk; rw [Bool.and_eq_true, decide_eq_true_eq, decide_eq_true_eq]
theorem take_sum_add (xs : List Int) (f m : Nat) : (xs.take (f + m)).sum = (xs.take f).sum + ((xs.drop f).take m).sum := by
  rw [List.take_add, List.sum_append]
theorem tsL_bd {n : Nat} {zs : List Int} {space gap : Int} (hv : tsOk n zs space gap = true) (i : Nat) : 0 ≤ (tsL n zs space gap).getD i 0 ∧ (tsL n zs space gap).getD i 0 ≤ 210000 := by
  obtain ⟨hv1, hs, hg⟩ := tsOk_iff.1 hv
  obtain ⟨hn8, hok⟩ := trsB_iff.1 hv1
  by_cases hi : i < n
  · rw [tsL_at hi]
    have lb := leftT_bd hn8 hok hs hg
    have h1 := share_bd (a := leftT n zs space gap) (ws := ptL n zs) lb.1 (share_wts hok) i
    have h2 := (okTr_iff.1 (hok i hi)).1
    omega
  · have e : (tsL n zs space gap).getD i 0 = 0 := by
      rw [List.getD_eq_getElem?_getD, List.getElem?_eq_none (by rw [tsL_len]; omega)]; rfl
    omega
theorem tsA_bd (n : Nat) (zs : List Int) (space gap : Int) (i : Nat) : 0 ≤ (tsA n zs space gap).getD i 0 ∧ (tsA n zs space gap).getD i 0 ≤ 210000 := by
  unfold tsA
  split
  · next h => exact tsL_bd h i
  · simp
theorem sum_bd2 {xs : List Int} (h : ∀ i, 0 ≤ xs.getD i 0 ∧ xs.getD i 0 ≤ 210000) (k : Nat) : 0 ≤ (xs.take k).sum ∧ (xs.take k).sum ≤ 210000 * (k : Int) := by
  induction k with
  | zero => simp
  | succ k ih =>
    by_cases hk : k < xs.length
    · rw [sum_snoc hk]
      have := h k
      omega
    · rw [List.take_of_length_le (by omega)] at ih ⊢
      omega
theorem bgL_bd {xs : List Int} {gap : Int} (h : ∀ i, 0 ≤ xs.getD i 0 ∧ xs.getD i 0 ≤ 210000) (hg : 0 ≤ gap ∧ gap ≤ 50) {k : Nat} (hk : k ≤ xs.length) (hl : xs.length ≤ 8) : 0 ≤ (bgL xs gap).getD k 0 ∧ (bgL xs gap).getD k 0 ≤ 10000000 := by
  rw [bgL_at _ _ _ hk]
  have h1 := sum_bd2 h k
  have h2 := gapp_bd (g := gap) (n := (k : Int)) hg (by omega)
  omega
theorem tsA_ok {n : Nat} {zs : List Int} {space gap : Int} (h : 0 < (tsA n zs space gap).length) : tsOk n zs space gap = true := by
  unfold tsA at h
  split at h
  · assumption
  · simp at h
end Go.Proofs.Ytcoddhlfhmelkaa
