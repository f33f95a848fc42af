/- Plain facts on items that are placed one behind the other in a grid. No condition. -/
import Derived.Test.YtnipnemhbelcaaaSts
import Derived.Test.YtnipnemhbelcaaaInts2
namespace Go.Proofs.Ytnipnemhbelcaaa
open Go.RowKit

/-- Where an item of width x goes, if the one before it ends at p. -/
def nextP (cols : Int) (p : Int × Int) (x : Int) : Int × Int := if cols < p.2 + x then (p.1 + 1, 0) else p
/-- Where the first k items end. -/
def stp (ws : List Int) (cols : Int) : Nat → Int × Int
  | 0 => (0, 0)
  | k + 1 => ((nextP cols (stp ws cols k) (ws.getD k 0)).1, (nextP cols (stp ws cols k) (ws.getD k 0)).2 + ws.getD k 0)
/-- The place of item k. -/
def plc (ws : List Int) (cols : Int) (k : Nat) : Int × Int := nextP cols (stp ws cols k) (ws.getD k 0)
/-- n pairs, as one list. -/
def pairsL (n : Nat) (p : Nat → Int × Int) : List Int := (List.range (n * 2)).map fun i => if i % 2 = 0 then (p (i / 2)).1 else (p (i / 2)).2
theorem pairsL_len (n : Nat) (p : Nat → Int × Int) : (pairsL n p).length = n * 2 := by simp [pairsL]
theorem pairsL_fst {n k : Nat} (p : Nat → Int × Int) (h : k < n) : (pairsL n p).getD (k * 2) 0 = (p k).1 := by
  have h2 : k * 2 < n * 2 := by omega
  simp [pairsL, h2]
theorem pairsL_snd {n k : Nat} (p : Nat → Int × Int) (h : k < n) : (pairsL n p).getD (k * 2 + 1) 0 = (p k).2 := by
  have h2 : k * 2 + 1 < n * 2 := by omega
  have h3 : (k * 2 + 1) / 2 = k := by omega
  have h4 : (k * 2 + 1) % 2 = 1 := by omega
  simp [pairsL, h2, h3, h4]
def apOk (ws : List Int) (cols : Int) : Bool := decide (1 ≤ cols ∧ cols ≤ 8) && decide ((ws.length : Int) ≤ 12) && allB 1 cols ws
def apA (ws : List Int) (cols : Int) : List Int := if apOk ws cols = true then pairsL ws.length (plc ws cols) else []
section
variable {ws : List Int} {cols : Int}
/-- The number of rows of n items. -/
def rowsN (ws : List Int) (cols : Int) : Nat → Int
  | 0 => 0
  | n + 1 => (plc ws cols n).1 + 1
def ruA (ws : List Int) (cols : Int) : Int := if apOk ws cols = true then rowsN ws cols ws.length else -1
theorem apOk_iff : apOk ws cols = true ↔ (1 ≤ cols ∧ cols ≤ 8) ∧ (ws.length : Int) ≤ 12 ∧ ∀ z ∈ ws, 1 ≤ z ∧ z ≤ cols := by
  unfold apOk; rw [Bool.and_eq_true, Bool.and_eq_true, decide_eq_true_eq, decide_eq_true_eq, allB_iff, and_assoc]
theorem apA_len (ws : List Int) (cols : Int) : (apA ws cols).length ≤ 24 := by
  unfold apA
  split
  · next h => have := (apOk_iff.1 h).2.1; rw [pairsL_len]; omega
  · simp
theorem apA_even (ws : List Int) (cols : Int) : ∃ n, (apA ws cols).length = n * 2 := by
  unfold apA
  split
  · exact ⟨_, pairsL_len _ _⟩
  · exact ⟨0, rfl⟩
theorem at_mem {ws : List Int} {k : Nat} {a b : Int} (h : ∀ z ∈ ws, a ≤ z ∧ z ≤ b) (hk : k < ws.length) : a ≤ ws.getD k 0 ∧ ws.getD k 0 ≤ b := by
  rw [show ws.getD k 0 = ws[k] by simp [hk]]
  exact h _ (List.getElem_mem hk)
theorem stp_bd (hc : 1 ≤ cols) (h : ∀ z ∈ ws, 1 ≤ z ∧ z ≤ cols) : ∀ k, k ≤ ws.length → (0 ≤ (stp ws cols k).1 ∧ ((stp ws cols k).1 + 1 ≤ (k : Int) ∨ (stp ws cols k).1 = 0 ∧ (stp ws cols k).2 = 0)) ∧ (0 ≤ (stp ws cols k).2 ∧ (stp ws cols k).2 ≤ cols)
  | 0, _ => ⟨⟨Int.le_refl _, .inr ⟨rfl, rfl⟩⟩, ⟨Int.le_refl _, by simp [stp]; omega⟩⟩
  | k + 1, hk => by
    obtain ⟨⟨a1, a2⟩, b1, b2⟩ := stp_bd hc h k (by omega)
    have hx := at_mem h (show k < ws.length by omega)
    rw [show stp ws cols (k + 1) = ((nextP cols (stp ws cols k) (ws.getD k 0)).1, (nextP cols (stp ws cols k) (ws.getD k 0)).2 + ws.getD k 0) from rfl]
    generalize stp ws cols k = p at a1 a2 b1 b2 ⊢
    by_cases hq : cols < p.2 + ws.getD k 0
    · have e : nextP cols p (ws.getD k 0) = (p.1 + 1, 0) := if_pos hq
      rw [e]
      rw [show ((k + 1 : Nat) : Int) = (k : Int) + 1 by omega]
      refine ⟨⟨?_, ?_⟩, ?_, ?_⟩ <;> (try dsimp only) <;> omega
    · have e : nextP cols p (ws.getD k 0) = p := if_neg hq
      rw [e]
      rw [show ((k + 1 : Nat) : Int) = (k : Int) + 1 by omega]
      refine ⟨⟨?_, ?_⟩, ?_, ?_⟩ <;> (try dsimp only) <;> omega
theorem plc_bd (hc : 1 ≤ cols) (h : ∀ z ∈ ws, 1 ≤ z ∧ z ≤ cols) {k : Nat} (hk : k < ws.length) : (0 ≤ (plc ws cols k).1 ∧ (plc ws cols k).1 ≤ (k : Int)) ∧ (0 ≤ (plc ws cols k).2 ∧ (plc ws cols k).2 + ws.getD k 0 ≤ cols) := by
  obtain ⟨⟨c1, c2⟩, d1, d2⟩ := stp_bd hc h k (by omega)
  have hx := at_mem h hk
  unfold plc
  generalize stp ws cols k = p at c1 c2 d1 d2 ⊢
  by_cases hq : cols < p.2 + ws.getD k 0
  · have e : nextP cols p (ws.getD k 0) = (p.1 + 1, 0) := if_pos hq
    rw [e]
    refine ⟨⟨?_, ?_⟩, ?_, ?_⟩ <;> (try dsimp only) <;> omega
  · have e : nextP cols p (ws.getD k 0) = p := if_neg hq
    rw [e]
    refine ⟨⟨?_, ?_⟩, ?_, ?_⟩ <;> (try dsimp only) <;> omega
theorem stp_succ (k : Nat) : stp ws cols (k + 1) = ((plc ws cols k).1, (plc ws cols k).2 + ws.getD k 0) := rfl
theorem plc_new {k : Nat} (h : cols < (stp ws cols k).2 + ws.getD k 0) : plc ws cols k = ((stp ws cols k).1 + 1, 0) := if_pos h
theorem plc_same {k : Nat} (h : ¬ cols < (stp ws cols k).2 + ws.getD k 0) : plc ws cols k = stp ws cols k := if_neg h
end
end Go.Proofs.Ytnipnemhbelcaaa
