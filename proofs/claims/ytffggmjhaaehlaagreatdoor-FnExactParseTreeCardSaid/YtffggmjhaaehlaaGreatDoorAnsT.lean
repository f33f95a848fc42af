/- Answers that are a row of structs and a truth value. No condition. -/
import Derived.Test.YtffggmjhaaehlaaGreatDoorSts
namespace Go.Proofs.YtffggmjhaaehlaaGreatDoor
open Go.RowKit

/-- An answer that is a row of structs of its own, and a truth value. -/
def AnsT (m : Nat) (w : World) (ok : Bool) (zs : List Int) (e : Ending) (w' : World) : Prop :=
  ∃ (A : Option Addr) (n c : Nat), e = .returned (.tuple #[.slice A n c, .bool ok]) ∧ zs.length = n * m ∧ Res w.heap.size w'.heap.size w' A zs ∧ New w w'
/-- An answer that is a row of structs of its own, in its room. -/
def AnsC (m : Nat) (w : World) (zs : List Int) (e : Ending) (w' : World) : Prop :=
  ∃ (A : Option Addr) (n c : Nat), e = .returned (.slice A n c) ∧ zs.length = n * m ∧ n ≤ c ∧ Res w.heap.size w'.heap.size w' A zs ∧ New w w'
theorem AnsT.no {m : Nat} {w w' : World} {e : Ending} (he : e = .returned (.tuple #[.slice none 0 0, .bool false])) (hN : New w w') : AnsT m w false [] e w' := ⟨_, 0, 0, he, by simp, Res.nil _ _ _, hN⟩
end Go.Proofs.YtffggmjhaaehlaaGreatDoor
