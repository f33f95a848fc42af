/- What the library answers: Join, Repeat. No condition. (Shf: what gen_shelf.py writes at the seat.) -/
import Derived.Test.YtffggmjhaaehlaaGreatDoorShf
import Derived.Test.YtffggmjhaaehlaaGreatDoorTxtG
namespace Go.Proofs.YtffggmjhaaehlaaGreatDoor
open Go.RowKit

theorem repC : RepC := fun d hd W => by
  have h := Shf.strings_Repeat ⟨#[45]⟩ d W (by omega) (by show 1 * d ≤ _; omega)
  rw [show (⟨#[45]⟩ : ByteArray).data.toList = [45] from rfl, repeat_one] at h
  exact h
theorem joinC : JoinC := fun g n f sep W h hn hl => by
  have e : ((List.range n).map fun i => (⟨(f i).toArray⟩ : ByteArray)).map (·.data.toList) = (List.range n).map f := by simp
  have hj := Shf.strings_Join g 0 n ((List.range n).map fun i => (⟨(f i).toArray⟩ : ByteArray)) ⟨sep.toArray⟩ W (fun j x hx => by
    have hlt : j < n := by
      have := List.getElem?_eq_some_iff.1 hx
      obtain ⟨h1, _⟩ := this
      simpa using h1
    rw [Nat.zero_add, h.c j hlt]
    simp [hlt] at hx
    rw [← hx]) h.lt (by simp; omega) (by simp) (by rw [e]; show (Lib.join _ sep).length ≤ _; omega)
  rw [e] at hj
  simp only [List.length_map, List.length_range] at hj
  exact hj
end Go.Proofs.YtffggmjhaaehlaaGreatDoor
