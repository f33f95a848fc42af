/- Plain facts on the places of items: one behind another, rows that are filled, wider grids. No condition. -/
import Derived.Test.YtnipnemhbelcaaaAutM
namespace Go.Proofs.Ytnipnemhbelcaaa
open Go.RowKit

section
variable {ws : List Int} {cols : Int}
theorem nextP_new {p : Int × Int} {x : Int} (h : cols < p.2 + x) : nextP cols p x = (p.1 + 1, 0) := if_pos h
theorem nextP_same {p : Int × Int} {x : Int} (h : ¬ cols < p.2 + x) : nextP cols p x = p := if_neg h
theorem plc_zero (h : ∀ z ∈ ws, 1 ≤ z ∧ z ≤ cols) (hl : 0 < ws.length) : plc ws cols 0 = (0, 0) := by
  have := at_mem h hl
  exact nextP_same (by show ¬ cols < (0 : Int) + _; omega)
/-- An item lies behind the one before it in its row, or first in the next row, where it did not fit. -/
theorem plc_next (ws : List Int) (cols : Int) (k : Nat) : (plc ws cols (k + 1) = ((plc ws cols k).1, (plc ws cols k).2 + ws.getD k 0)) ∨ (plc ws cols (k + 1) = ((plc ws cols k).1 + 1, 0) ∧ cols < (plc ws cols k).2 + ws.getD k 0 + ws.getD (k + 1) 0) := by
  have e := stp_succ (ws := ws) (cols := cols) k
  by_cases h : cols < (stp ws cols (k + 1)).2 + ws.getD (k + 1) 0
  · refine .inr ⟨?_, ?_⟩
    · rw [plc_new h, e]
    · rw [e] at h; exact h
  · refine .inl ?_
    rw [plc_same h, e]
theorem stp_take (ws : List Int) (cols : Int) (n : Nat) : ∀ k, k ≤ n → stp (ws.take n) cols k = stp ws cols k
  | 0, _ => rfl
  | k + 1, h => by
    have e : (ws.take n).getD k 0 = ws.getD k 0 := by rw [List.getD_eq_getElem?_getD, List.getElem?_take_of_lt (by omega), ← List.getD_eq_getElem?_getD]
    have ih := stp_take ws cols n k (by omega)
    show ((nextP cols (stp (ws.take n) cols k) ((ws.take n).getD k 0)).1, (nextP cols (stp (ws.take n) cols k) ((ws.take n).getD k 0)).2 + (ws.take n).getD k 0) = ((nextP cols (stp ws cols k) (ws.getD k 0)).1, (nextP cols (stp ws cols k) (ws.getD k 0)).2 + ws.getD k 0)
    rw [ih, e]
theorem plc_take (ws : List Int) (cols : Int) {n k : Nat} (h : k < n) : plc (ws.take n) cols k = plc ws cols k := by
  unfold plc
  rw [stp_take ws cols n k (by omega), List.getD_eq_getElem?_getD, List.getElem?_take_of_lt h, ← List.getD_eq_getElem?_getD]
theorem rows_stp (ws : List Int) (cols : Int) {n : Nat} (h : 0 < n) : rowsN ws cols n = (stp ws cols n).1 + 1 := by
  obtain ⟨k, rfl⟩ : ∃ k, n = k + 1 := ⟨n - 1, by omega⟩
  rfl
theorem rowsN_le (hc : 1 ≤ cols) (h : ∀ z ∈ ws, 1 ≤ z ∧ z ≤ cols) {n : Nat} (hn : n ≤ ws.length) : 0 ≤ rowsN ws cols n ∧ rowsN ws cols n ≤ (n : Int) := by
  cases n with
  | zero => exact ⟨Int.le_refl _, Int.le_refl _⟩
  | succ k =>
    have := (plc_bd hc h (k := k) (by omega)).1
    show 0 ≤ (plc ws cols k).1 + 1 ∧ (plc ws cols k).1 + 1 ≤ ((k + 1 : Nat) : Int)
    omega
theorem take_sum_stp (hc : 1 ≤ cols) (h : ∀ z ∈ ws, 1 ≤ z ∧ z ≤ cols) : ∀ k, k ≤ ws.length → (ws.take k).sum ≤ (stp ws cols k).1 * cols + (stp ws cols k).2
  | 0, _ => by simp [stp]
  | k + 1, hk => by
    have ih := take_sum_stp hc h k (by omega)
    have b := (stp_bd hc h k (by omega)).2
    rw [sum_snoc (show k < ws.length by omega)]
    rw [show stp ws cols (k + 1) = ((nextP cols (stp ws cols k) (ws.getD k 0)).1, (nextP cols (stp ws cols k) (ws.getD k 0)).2 + ws.getD k 0) from rfl]
    generalize stp ws cols k = p at ih b ⊢
    by_cases hq : cols < p.2 + ws.getD k 0
    · rw [nextP_new hq]
      show _ ≤ (p.1 + 1) * cols + (0 + ws.getD k 0)
      rw [Int.add_mul]
      omega
    · rw [nextP_same hq]
      show _ ≤ p.1 * cols + (p.2 + ws.getD k 0)
      omega
theorem rows_sum (hc : 1 ≤ cols) (h : ∀ z ∈ ws, 1 ≤ z ∧ z ≤ cols) : ws.sum ≤ rowsN ws cols ws.length * cols := by
  by_cases h0 : 0 < ws.length
  · have t := take_sum_stp hc h ws.length (Nat.le_refl _)
    rw [List.take_of_length_le (Nat.le_refl _)] at t
    have b := (stp_bd hc h ws.length (Nat.le_refl _)).2
    rw [rows_stp ws cols h0, Int.add_mul]
    omega
  · have e : ws = [] := List.eq_nil_of_length_eq_zero (by omega)
    subst e
    simp [rowsN]
theorem stp_ones (n : Nat) : ∀ k, k + 1 ≤ n → stp (List.replicate n 1) 1 (k + 1) = ((k : Int), 1)
  | 0, h => by
    have e : (List.replicate n (1 : Int)).getD 0 0 = 1 := by simp [show 0 < n by omega]
    show ((nextP 1 (0, 0) ((List.replicate n (1 : Int)).getD 0 0)).1, (nextP 1 (0, 0) ((List.replicate n (1 : Int)).getD 0 0)).2 + (List.replicate n (1 : Int)).getD 0 0) = _
    rw [e]
    rfl
  | k + 1, h => by
    have e : (List.replicate n (1 : Int)).getD (k + 1) 0 = 1 := by simp [show k + 1 < n by omega]
    have ih := stp_ones n k (by omega)
    show ((nextP 1 (stp (List.replicate n 1) 1 (k + 1)) ((List.replicate n (1 : Int)).getD (k + 1) 0)).1, (nextP 1 (stp (List.replicate n 1) 1 (k + 1)) ((List.replicate n (1 : Int)).getD (k + 1) 0)).2 + (List.replicate n (1 : Int)).getD (k + 1) 0) = _
    rw [e, ih, nextP_new (by show (1 : Int) < 1 + 1; omega)]
    simp
theorem rows_ones (n : Nat) : rowsN (List.replicate n 1) 1 n = (n : Int) := by
  by_cases h : 0 < n
  · obtain ⟨k, rfl⟩ : ∃ k, n = k + 1 := ⟨n - 1, by omega⟩
    rw [rows_stp _ _ h, stp_ones (k + 1) k (Nat.le_refl _)]
    simp
  · obtain rfl : n = 0 := by omega
    rfl
theorem ones_ru {n : Nat} (h : n ≤ 12) : ruA (List.replicate n 1) 1 = (n : Int) := by
  unfold ruA
  rw [if_pos (apOk_iff.2 ⟨by omega, by rw [List.length_replicate]; omega, fun z hz => by rw [List.eq_of_mem_replicate hz]; omega⟩), List.length_replicate]
  exact rows_ones n
theorem stp_more (hc : 1 ≤ cols) (h : ∀ z ∈ ws, 1 ≤ z ∧ z ≤ cols) : ∀ k, k ≤ ws.length → (stp ws (cols + 1) k).1 < (stp ws cols k).1 ∨ ((stp ws (cols + 1) k).1 = (stp ws cols k).1 ∧ (stp ws (cols + 1) k).2 ≤ (stp ws cols k).2)
  | 0, _ => .inr ⟨rfl, Int.le_refl _⟩
  | k + 1, hk => by
    have ih := stp_more hc h k (by omega)
    have b := (stp_bd hc h k (by omega)).2
    have b2 := (stp_bd (cols := cols + 1) (by omega) (fun z hz => by have := h z hz; omega) k (by omega)).2
    have hx := at_mem h (show k < ws.length by omega)
    rw [show stp ws cols (k + 1) = ((nextP cols (stp ws cols k) (ws.getD k 0)).1, (nextP cols (stp ws cols k) (ws.getD k 0)).2 + ws.getD k 0) from rfl,
      show stp ws (cols + 1) (k + 1) = ((nextP (cols + 1) (stp ws (cols + 1) k) (ws.getD k 0)).1, (nextP (cols + 1) (stp ws (cols + 1) k) (ws.getD k 0)).2 + ws.getD k 0) from rfl]
    generalize stp ws cols k = p at ih b ⊢
    generalize stp ws (cols + 1) k = q at ih b2 ⊢
    by_cases hp : cols < p.2 + ws.getD k 0
    · rw [nextP_new hp]
      by_cases hq : cols + 1 < q.2 + ws.getD k 0
      · rw [nextP_new hq]
        show q.1 + 1 < p.1 + 1 ∨ (q.1 + 1 = p.1 + 1 ∧ 0 + ws.getD k 0 ≤ 0 + ws.getD k 0)
        omega
      · rw [nextP_same hq]
        show q.1 < p.1 + 1 ∨ (q.1 = p.1 + 1 ∧ q.2 + ws.getD k 0 ≤ 0 + ws.getD k 0)
        omega
    · rw [nextP_same hp]
      by_cases hq : cols + 1 < q.2 + ws.getD k 0
      · rw [nextP_new hq]
        show q.1 + 1 < p.1 ∨ (q.1 + 1 = p.1 ∧ 0 + ws.getD k 0 ≤ p.2 + ws.getD k 0)
        omega
      · rw [nextP_same hq]
        show q.1 < p.1 ∨ (q.1 = p.1 ∧ q.2 + ws.getD k 0 ≤ p.2 + ws.getD k 0)
        omega
theorem ru_more (h : apOk ws cols = true) (h8 : cols + 1 ≤ 8) : ruA ws (cols + 1) ≤ ruA ws cols := by
  obtain ⟨⟨c1, c8⟩, l12, hw⟩ := apOk_iff.1 h
  have h2 : apOk ws (cols + 1) = true := apOk_iff.2 ⟨by omega, l12, fun z hz => by have := hw z hz; omega⟩
  unfold ruA
  rw [if_pos h, if_pos h2]
  by_cases h0 : 0 < ws.length
  · have m := stp_more c1 hw ws.length (Nat.le_refl _)
    rw [rows_stp ws cols h0, rows_stp ws (cols + 1) h0]
    omega
  · have e : ws.length = 0 := by omega
    rw [e]
    exact Int.le_refl _
end
end Go.Proofs.Ytnipnemhbelcaaa
