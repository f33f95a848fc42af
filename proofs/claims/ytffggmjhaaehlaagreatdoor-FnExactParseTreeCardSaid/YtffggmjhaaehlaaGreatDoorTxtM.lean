/- The text of a box: plain. No condition. -/
import Derived.Test.YtffggmjhaaehlaaGreatDoorTxtD
namespace Go.Proofs.YtffggmjhaaehlaaGreatDoor
open Go.RowKit

/-- The words for the kinds, and for what every box has. -/
def kn : Nat → List UInt8
  | 0 => [108, 101, 97, 102]
  | 1 => [98, 108, 111, 99, 107]
  | 2 => [114, 111, 119]
  | _ => [99, 111, 108, 117, 109, 110]
def nm : Nat → List UInt8
  | 0 => [112, 97, 100]
  | 1 => [103, 97, 112]
  | 2 => [103, 114, 111, 119]
  | 3 => [115, 104, 114, 105, 110, 107]
  | _ => [106, 117, 115, 116, 105, 102, 121]
/-- A word with its number, unless that is 0. -/
def sw (l : List UInt8) (v : Int) : List UInt8 := if v = 0 then [] else ((([32] ++ l) ++ [32]) ++ Lib.decDigits v.toNat)
def sws (vs : List Int) : Nat → List UInt8
  | 0 => []
  | j + 1 => sws vs j ++ sw (nm j) (vs.getD j 0)
def hdT (k : Nat) (wd ht : Int) : List UInt8 := if k = 0 then ((((kn 0 ++ [32]) ++ Lib.decDigits wd.toNat) ++ [32]) ++ Lib.decDigits ht.toNat) else kn k
/-- The text of a box. -/
def boxTx (k : Nat) (wd ht : Int) (vs : List Int) : List UInt8 := hdT k wd ht ++ sws vs 5
section
variable {v : Int} {k j : Nat} {vs : List Int}
theorem kn_len (k : Nat) : (kn k).length ≤ 6 := by unfold kn; split <;> simp
theorem nm_len (k : Nat) : (nm k).length ≤ 7 := by unfold nm; split <;> simp
theorem dd_len (h : 0 ≤ v ∧ v ≤ 100) : (Lib.decDigits v.toNat).length ≤ 3 := decDigits_len 2 _ (by omega)
theorem sw_len (h : 0 ≤ v ∧ v ≤ 100) (k : Nat) : (sw (nm k) v).length ≤ 12 := by
  have h1 := nm_len k
  have h2 := dd_len h
  unfold sw
  split
  · simp
  · simp only [List.length_append, List.length_singleton]; omega
theorem sws_len (h : ∀ i, i < 5 → 0 ≤ vs.getD i 0 ∧ vs.getD i 0 ≤ 100) : ∀ j, j ≤ 5 → (sws vs j).length ≤ 12 * j
  | 0, _ => Nat.le_refl _
  | j + 1, hj => by
    have h1 := sws_len h j (by omega)
    have h2 := sw_len (h j (by omega)) j
    show (sws vs j ++ sw (nm j) (vs.getD j 0)).length ≤ _
    rw [List.length_append]; omega
theorem hdT_len {wd ht : Int} (hw : 0 ≤ wd ∧ wd ≤ 100) (hh : 0 ≤ ht ∧ ht ≤ 100) (k : Nat) : (hdT k wd ht).length ≤ 14 := by
  have h1 := kn_len k
  have h3 := dd_len hw
  have h4 := dd_len hh
  unfold hdT
  split
  · simp only [List.length_append, List.length_singleton]
    have : (kn 0).length = 4 := rfl
    omega
  · omega
theorem sws_no (h : vs.getD j 0 = 0) : sws vs (j + 1) = sws vs j := by show sws vs j ++ sw (nm j) (vs.getD j 0) = _; unfold sw; rw [if_pos h, List.append_nil]
theorem sws_yes (h : vs.getD j 0 ≠ 0) : sws vs (j + 1) = sws vs j ++ ((([32] ++ nm j) ++ [32]) ++ Lib.decDigits (vs.getD j 0).toNat) := by show sws vs j ++ sw (nm j) (vs.getD j 0) = _; unfold sw; rw [if_neg h]
theorem nat_toNat (h : 0 ≤ v) : ∃ u : Nat, v = (u : Int) ∧ v.toNat = u := ⟨v.toNat, by omega, rfl⟩
end
end Go.Proofs.YtffggmjhaaehlaaGreatDoor
