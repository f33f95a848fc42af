/- Slices of structs whose fields are numbers: they read as the list of all their numbers, one element's behind another's. Conditions: the slices can be read. -/
import Derived.Test.YtffggmjhaaehlaaGreatDoorRes
import Derived.Deep.Slices
import Derived.Deep.Fields
import Derived.ChangeSame
import Derived.StillTailTactics
namespace Go.Proofs.YtffggmjhaaehlaaGreatDoor
open Go.RowKit

/-- The slice of n structs of m numbers each, from A on, reads as the list zs of their numbers. -/
structure Sts (m : Nat) (w : World) (A : Option Addr) (n : Nat) (zs : List Int) : Prop where
  len : zs.length = n * m
  at_ : 0 < n → ∃ b off, A = some ⟨b, off, none⟩ ∧ b < w.heap.size ∧ ∀ i, i < n * m → w.cell? ⟨b, off + i, none⟩ = some (.int .i64 (zs.getD i 0))
section
variable {m n : Nat} {w w' : World} {A : Option Addr} {zs : List Int}
theorem Sts.new (h : Sts m w A n zs) (hN : New w w') : Sts m w' A n zs :=
  ⟨h.len, fun hn => by obtain ⟨b, off, e, hb, hc⟩ := h.at_ hn; exact ⟨b, off, e, Nat.lt_of_lt_of_le hb hN.le, fun i hi => (hN.cells b _ hb).trans (hc i hi)⟩⟩
theorem Sts.drewN (h : Sts m w A n zs) (k : Nat) : Sts m (w.drewN k) A n zs := ⟨h.len, h.at_⟩
theorem Sts.of_res' {lo hi : Nat} (h : Res lo hi w A zs) (hm : zs.length = n * m) (h0 : 0 < m) : Sts m w A n zs := by
  refine ⟨hm, fun hn => ?_⟩
  have hp : 0 < n * m := Nat.mul_pos hn h0
  obtain ⟨g, rfl, _, _, hR⟩ := h.2 (by omega)
  exact ⟨g, 0, rfl, hR.lt, fun i hi => by simpa using hR.c i (by omega)⟩
theorem Sts.of_res {lo hi : Nat} (h : Res lo hi w A zs) (hm : zs.length = n * (m + 1)) : Sts (m + 1) w A n zs := Sts.of_res' h hm (Nat.succ_pos m)
theorem idx_lt {k n m j : Nat} (hk : k < n) (hj : j < m) : k * m + j < n * m := by
  have h : (k + 1) * m ≤ n * m := Nat.mul_le_mul_right m hk
  rw [Nat.add_mul, Nat.one_mul] at h
  omega
end
theorem Row.zeros (w : World) (z : Array Value) (n : Nat) (t : TypeId) (hz : ∀ i, z[i % z.size]! = .int .i64 0) : Row (w.alloc (.cells (madeCells z n) t)) w.heap.size (List.replicate n 0) := by
  refine ⟨by simp, fun i hi => ?_, fun i hi => by simp [go_sem]⟩
  have hi' : i < n := by simpa using hi
  have e : (w.alloc (.cells (madeCells z n) t)).cell? ⟨w.heap.size, i, none⟩ = (madeCells z n)[i]? := World.cell?_alloc_new w _ t i
  rw [e]
  simp [madeCells, hi', hz]
/-- An answer that is a row of structs of its own. -/
def AnsS (m : Nat) (w : World) (zs : List Int) (e : Ending) (w' : World) : Prop :=
  ∃ (A : Option Addr) (n c : Nat), e = .returned (.slice A n c) ∧ zs.length = n * m ∧ Res w.heap.size w'.heap.size w' A zs ∧ New w w'
theorem AnsS.row {m : Nat} {w w' : World} {g n c : Nat} {zs : List Int} {e : Ending} (he : e = .returned (.slice (some ⟨g, 0, none⟩) n c)) (hn : zs.length = n * m) (hg : w.heap.size ≤ g) (h : Row w' g zs) (hN : New w w') : AnsS m w zs e w' :=
  ⟨_, n, c, he, hn, Res.of_row h hg, hN⟩
end Go.Proofs.YtffggmjhaaehlaaGreatDoor
