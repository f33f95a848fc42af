/- CommonBox of the program and of the reference, walked. Condition: the tree can be read. -/
import Derived.Test.YtnihklilappimaaPathS
namespace Go.Proofs.Ytnihklilappimaa
open Go.RowKit

theorem comK_comA (n : Nat) (zs : List Int) (a b : Int) : comK (pathA n zs a) (pathA n zs b) (pathA n zs a).length = comA n zs a b := by
  cases ha : nodeOk n zs a
  · rw [pathA_no ha]; unfold comA; rw [ha]; rfl
  · cases hb : nodeOk n zs b
    · rw [pathA_no hb, comK_nil]; unfold comA; rw [hb, Bool.and_false]; rfl
    · obtain ⟨hv, i, rfl, hi⟩ := nodeOk_iff.1 ha
      obtain ⟨_, j, rfl, hj⟩ := nodeOk_iff.1 hb
      rw [pathA_at hv hi, pathA_at hv hj, List.length_map, comK_all (link_vt hv) hi hj]
      unfold comA
      rw [ha, hb, Int.toNat_natCast, Int.toNat_natCast]; rfl
end Go.Proofs.Ytnihklilappimaa
