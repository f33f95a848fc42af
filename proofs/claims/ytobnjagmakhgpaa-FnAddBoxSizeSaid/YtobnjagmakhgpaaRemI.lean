/- RemoveBox of the program, walked. Condition: the tree can be read. -/
import Derived.Test.YtobnjagmakhgpaaAddP
import Derived.Test.YtobnjagmakhgpaaDelBox
import Derived.Test.YtobnjagmakhgpaaPartI
import Derived.Test.YtobnjagmakhgpaaAnsT
namespace Go.Proofs.Ytobnjagmakhgpaa
open Go.RowKit

/-- The tree without a box and all boxes in it. -/
def remL (n : Nat) (zs : List Int) (a : Nat) : List Int := parF (mvp (a : Int) (-(((en zs n a - a : Nat) : Int)))) (zs.take (a * 9) ++ zs.drop (en zs n a * 9))
def remOk (n : Nat) (zs : List Int) (at_ : Int) : Bool := nodeOk n zs at_ && decide (at_ ≠ 0)
def remA (n : Nat) (zs : List Int) (at_ : Int) : List Int := if remOk n zs at_ = true then remL n zs at_.toNat else []
theorem remL_len {n a : Nat} {zs : List Int} (hz : zs.length = n * 9) (ha : a < n) : (remL n zs a).length = (n - (en zs n a - a)) * 9 := by
  have eb := en_bd (zs := zs) ha
  unfold remL
  rw [parF_len, List.length_append, List.length_take, List.length_drop]
  omega
theorem remA_len {n : Nat} {zs : List Int} (hz : zs.length = n * 9) (at_ : Int) : (remA n zs at_).length ≤ 144 := by
  unfold remA
  split
  · rename_i h
    unfold remOk at h
    rw [Bool.and_eq_true] at h
    obtain ⟨hv, a, rfl, ha⟩ := nodeOk_iff.1 h.1
    have := (vtB_iff.1 hv).1
    rw [Int.toNat_natCast, remL_len hz ha]
    omega
  · simp
end Go.Proofs.Ytobnjagmakhgpaa
