/- Plain facts on layouts: no height depends on the width of the screen. No condition. -/
import Derived.Test.YtigniaebokknmaaLayA
namespace Go.Proofs.Ytigniaebokknmaa
open Go.RowKit

/-- Heights are the same for every width. -/
theorem lay_high {n : Nat} {zs : List Int} {W W' H : Int} (hv : vtB n zs = true) : ∀ i, i < n → (layR zs n W H i).2.2.2 = (layR zs n W' H i).2.2.2 := by
  intro i
  induction i using Nat.strongRecOn with
  | ind i ih =>
    intro hi
    have hL := link_vt hv
    rcases Nat.eq_zero_or_pos i with h0 | h0
    · subst h0
      have hr := hL.root (by omega)
      rw [lay_top (by omega), lay_top (by omega)]
    · obtain ⟨p, e, hp, _⟩ := hL.up i h0 hi
      have hj : i ∈ kidL zs n p := kid_mem.2 ⟨hi, e⟩
      obtain ⟨t, ht, et⟩ := List.getElem_of_mem hj
      have gt : (kidL zs n p).getD t 0 = i := by simp [ht, et]
      have h1 := lay_plc (t := t) (W := W) (H := H) hL ht
      have h2 := lay_plc (t := t) (W := W') (H := H) hL ht
      rw [gt] at h1 h2
      rw [h1, h2]
      have hh := ih p hp (by omega)
      have e4 : (inQ zs p (layR zs n W H p)).2.2.2 = (inQ zs p (layR zs n W' H p)).2.2.2 := by
        unfold inQ
        dsimp only
        rw [hh]
      unfold plcL
      by_cases hk : knd zs p = 2
      · rw [if_pos hk, if_pos hk, lineL_at ht, lineL_at ht]
        exact e4
      · rw [if_neg hk, if_neg hk]
        by_cases hk3 : knd zs p = 3
        · rw [if_pos hk3, if_pos hk3, lineT_at ht, lineT_at ht]
          unfold turnQ
          dsimp only
          rw [e4]
        · rw [if_neg hk3, if_neg hk3, blkL_at ht, blkL_at ht]
end Go.Proofs.Ytigniaebokknmaa
