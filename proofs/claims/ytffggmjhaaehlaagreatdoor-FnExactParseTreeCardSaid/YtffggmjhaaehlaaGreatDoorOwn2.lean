/- The helpers of the exact laws that compare, mark and look at slices of whole numbers (eqIntS, markIntS, heldIntS). Conditions: the slices can be read; the marked slice lies in a block of the call's own. -/
import Derived.Test.YtffggmjhaaehlaaGreatDoorOwn
namespace Go.Proofs.YtffggmjhaaehlaaGreatDoor
open Go.RowKit

/-- The numbers k0, k0 + 1, .. -/
def marks (k0 : Int) (n : Nat) : List Int := (List.range n).map fun (i : Nat) => k0 + (i : Int)
theorem marks_len (k0 : Int) (n : Nat) : (marks k0 n).length = n := by simp [marks]
theorem marks_at (k0 : Int) (n i : Nat) (h : i < n) : (marks k0 n).getD i 0 = k0 + (i : Int) := by simp [marks, h]
/-- The first k are marked. -/
def markTo (k0 : Int) (k : Nat) (zs : List Int) : List Int := marks k0 k ++ zs.drop k
theorem markTo_len (k0 : Int) (k : Nat) (zs : List Int) (h : k ≤ zs.length) : (markTo k0 k zs).length = zs.length := by unfold markTo; rw [List.length_append, marks_len, List.length_drop]; omega
theorem markTo_all (k0 : Int) (zs : List Int) : markTo k0 zs.length zs = marks k0 zs.length := by unfold markTo; simp
theorem markTo_step (k0 : Int) (k : Nat) (zs : List Int) (h : k < zs.length) : (markTo k0 k zs).set k (k0 + (k : Int)) = markTo k0 (k + 1) zs := by
  unfold markTo
  rw [List.set_append_right _ _ (by rw [marks_len]; omega), marks_len, Nat.sub_self]
  have e : marks k0 (k + 1) = marks k0 k ++ [k0 + (k : Int)] := by unfold marks; rw [List.range_succ, List.map_append]; simp
  have e2 : zs.drop k = zs[k] :: zs.drop (k + 1) := List.drop_eq_getElem_cons h
  rw [e, List.append_assoc, e2]
  rfl
/-- Only block g has turned, and new blocks are there. -/
theorem own_set {w0 w : World} {g k : Nat} (h : w0.grownBy w (some g)) (u : Value) : w0.grownBy (w.setCell ⟨g, k, none⟩ u) (some g) :=
  ⟨h.os, h.tape, h.output, by simpa [World.setCell] using h.size, fun i hi hne => (Below.heap_setCell _ _ _ _ (fun e => hne (by rw [e]))).trans (h.block i hi hne)⟩

end Go.Proofs.YtffggmjhaaehlaaGreatDoor
