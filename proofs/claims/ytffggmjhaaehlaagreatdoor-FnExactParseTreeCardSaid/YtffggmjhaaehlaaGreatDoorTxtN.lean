/- The text of a tree: plain. No condition. -/
import Derived.Test.YtffggmjhaaehlaaGreatDoorTxtM
import Derived.Test.YtffggmjhaaehlaaGreatDoorTreeP
import Derived.Lib.Join
import Derived.Lib.Repeat
namespace Go.Proofs.YtffggmjhaaehlaaGreatDoor
open Go.RowKit

/-- The line of a box, what stands ahead of it, and the first lines of a tree. -/
def valL (zs : List Int) (i : Nat) : List Int := [zs.getD (i * 9 + 4) 0, zs.getD (i * 9 + 5) 0, zs.getD (i * 9 + 6) 0, zs.getD (i * 9 + 7) 0, zs.getD (i * 9 + 8) 0]
def bxT (zs : List Int) (i : Nat) : List UInt8 := boxTx (knd zs i).toNat (zs.getD (i * 9 + 2) 0) (zs.getD (i * 9 + 3) 0) (valL zs i)
def lnT (zs : List Int) (i : Nat) : List UInt8 := List.replicate (dep zs i) 45 ++ bxT zs i
def spT (i : Nat) : List UInt8 := if i = 0 then [] else [10]
def txT (zs : List Int) : Nat → List UInt8
  | 0 => []
  | i + 1 => (txT zs i ++ spT i) ++ lnT zs i
def txA (n : Nat) (zs : List Int) : List UInt8 := if vtB n zs = true then txT zs n else []
section
variable {zs : List Int} {i n : Nat}
theorem BoxP.vals (h : BoxP zs i) : ∀ j, j < 5 → 0 ≤ (valL zs i).getD j 0 ∧ (valL zs i).getD j 0 ≤ 100 := fun j hj => by
  obtain ⟨_, _, _, h4, h5, h6, h7, h8⟩ := h
  rcases (show j = 0 ∨ j = 1 ∨ j = 2 ∨ j = 3 ∨ j = 4 by omega) with rfl | rfl | rfl | rfl | rfl <;> simp only [valL, List.getD_cons_zero, List.getD_cons_succ] <;> omega
theorem BoxP.wide (h : BoxP zs i) : (0 ≤ zs.getD (i * 9 + 2) 0 ∧ zs.getD (i * 9 + 2) 0 ≤ 100) ∧ (0 ≤ zs.getD (i * 9 + 3) 0 ∧ zs.getD (i * 9 + 3) 0 ≤ 100) := by
  obtain ⟨_, h2, h3, _⟩ := h
  split at h2 <;> split at h3 <;> omega
theorem bxT_len (h : BoxP zs i) : (bxT zs i).length ≤ 74 := by
  have h1 := hdT_len h.wide.1 h.wide.2 (knd zs i).toNat
  have h2 := sws_len h.vals 5 (Nat.le_refl _)
  unfold bxT boxTx
  rw [List.length_append]; omega
theorem txT_len (hv : vtB n zs = true) : ∀ i, i ≤ n → (txT zs i).length ≤ 80 * i
  | 0, _ => Nat.le_refl _
  | i + 1, hi => by
    have h1 := txT_len hv i (by omega)
    have h2 := bxT_len ((vtB_iff.1 hv).2 i (by omega)).1
    have h3 := dep_le5 hv (i := i) (by omega)
    have h4 : (spT i).length ≤ 1 := by unfold spT; split <;> simp
    show (txT zs i ++ spT i ++ (List.replicate (dep zs i) 45 ++ bxT zs i)).length ≤ _
    simp only [List.length_append, List.length_replicate]
    omega
end
theorem join_snoc (sep y : List UInt8) : ∀ (x : List UInt8) (xs : List (List UInt8)), Lib.join ((x :: xs) ++ [y]) sep = Lib.join (x :: xs) sep ++ (sep ++ y)
  | x, [] => by simp [Lib.join, List.intercalate]
  | x, z :: zs => by
    have h := join_snoc sep y z zs
    simp only [Lib.join, List.intercalate, List.intersperse, List.cons_append, List.flatten_cons] at h ⊢
    rw [h]; simp
theorem join_tx (ln : Nat → List UInt8) (tx : Nat → List UInt8) (h1 : tx 1 = ln 0) (hs : ∀ i, 0 < i → tx (i + 1) = tx i ++ ([10] ++ ln i)) : ∀ n, 0 < n → Lib.join ((List.range n).map ln) [10] = tx n
  | 1, _ => by rw [h1]; simp [Lib.join, List.intercalate, List.range, List.range.loop]
  | n + 2, _ => by
    have h := join_tx ln tx h1 hs (n + 1) (by omega)
    rw [List.range_succ, List.map_append, hs (n + 1) (by omega), ← h]
    rw [List.range_succ_eq_map, List.map_cons]
    exact join_snoc _ _ _ _
theorem join_txT (zs : List Int) (n : Nat) (h : 0 < n) : Lib.join ((List.range n).map (lnT zs)) [10] = txT zs n :=
  join_tx (lnT zs) (txT zs) (by show ([] ++ spT 0) ++ lnT zs 0 = _; simp [spT]) (fun i hi => by
    show (txT zs i ++ spT i) ++ lnT zs i = _
    have : spT i = [10] := by unfold spT; rw [if_neg (by omega)]
    rw [this, List.append_assoc]) n h
theorem repeat_one (b : UInt8) : ∀ d, Lib.repeatL [b] d = List.replicate d b
  | 0 => rfl
  | d + 1 => by rw [Lib.repeatL, repeat_one b d]; rfl
end Go.Proofs.YtffggmjhaaehlaaGreatDoor
