/- Plain facts on layouts of blocks, for their law: each box is as high as it needs, and they follow each other with the gap. -/
import Derived.Test.YtigniaebokknmaaZW
namespace Go.Proofs.Ytigniaebokknmaa
open Go.RowKit

theorem lay_block {n p t : Nat} {zs : List Int} {W H : Int} (hv : vtB n zs = true) (hk : knd zs p = 1) (ht : t < (kidL zs n p).length) :
    layR zs n W H ((kidL zs n p).getD t 0) = ((inQ zs p (layR zs n W H p)).1, (inQ zs p (layR zs n W H p)).2.1 + topL (fun j => (natL zs n j).2) (zs.getD (p * 9 + 5) 0) (kidL zs n p) t, (inQ zs p (layR zs n W H p)).2.2.1, (natL zs n ((kidL zs n p).getD t 0)).2) := by
  have hs : kidL zs n p = (kidL zs n p).take t ++ (kidL zs n p).getD t 0 :: (kidL zs n p).drop (t + 1) := by
    have h := (List.take_append_drop t (kidL zs n p)).symm
    rw [List.drop_eq_getElem_cons ht] at h
    rw [show (kidL zs n p).getD t 0 = (kidL zs n p)[t] by simp [ht]]
    exact h
  have hl : ((kidL zs n p).take t).length = t := by rw [List.length_take]; omega
  rw [lay_kid (link_vt hv) hs, hl]
  unfold plcL
  rw [if_neg (by rw [hk]; decide), if_neg (by rw [hk]; decide), blkL_at ht]
/-- All that the law asks of a box in a block. -/
theorem lay_blk {n p t : Nat} {zs : List Int} {W H : Int} (hv : vtB n zs = true) (hW : 0 ≤ W ∧ W ≤ 10000) (hH : 0 ≤ H ∧ H ≤ 10000) (hk : zs.getD (p * 9 + 1) 0 = 1) (ht : t < (kidL zs n p).length) :
    (kidL zs n p).getD t 0 < n ∧ natH n zs (((kidL zs n p).getD t 0 : Nat) : Int) = (layR zs n W H ((kidL zs n p).getD t 0)).2.2.2 ∧ nodeOk n zs (((kidL zs n p).getD t 0 : Nat) : Int) = true ∧ (0 ≤ (layR zs n W H ((kidL zs n p).getD t 0)).2.1 ∧ (layR zs n W H ((kidL zs n p).getD t 0)).2.1 ≤ 100000) ∧ (0 ≤ (layR zs n W H ((kidL zs n p).getD t 0)).2.2.2 ∧ (layR zs n W H ((kidL zs n p).getD t 0)).2.2.2 ≤ 10000) ∧
      ∀ s, t = s + 1 → (layR zs n W H ((kidL zs n p).getD t 0)).2.1 = (layR zs n W H ((kidL zs n p).getD s 0)).2.1 + (layR zs n W H ((kidL zs n p).getD s 0)).2.2.2 + zs.getD (p * 9 + 5) 0 := by
  have hu := (kid_mem.1 (kid_get ht)).1
  have hb := lay_bd hv hW hH _ hu
  have hd := dep_le5 hv hu
  have h1 := lay_block (W := W) (H := H) hv hk ht
  refine ⟨hu, ?_, nodeOk_iff.2 ⟨hv, _, rfl, hu⟩, ⟨hb.2.1.1, by have := hb.2.1.2; omega⟩, hb.2.2.2, fun s hs => ?_⟩
  · rw [natH_at hv hu, h1]
  · subst hs
    have hs : s < (kidL zs n p).length := by omega
    rw [h1, lay_block (W := W) (H := H) hv hk hs]
    dsimp only
    rw [topL_succ hs]
    omega
end Go.Proofs.Ytigniaebokknmaa
