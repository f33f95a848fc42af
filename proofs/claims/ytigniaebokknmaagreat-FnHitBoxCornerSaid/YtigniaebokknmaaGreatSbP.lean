/- Plain facts on boxes that are seen or hit, for their laws. No condition. -/
import Derived.Test.YtigniaebokknmaaGreatSeenB
import Derived.Test.YtigniaebokknmaaGreatYC
import Derived.Test.YtigniaebokknmaaGreatIsIn
import Derived.Test.YtigniaebokknmaaGreatYD
namespace Go.Proofs.YtigniaebokknmaaGreat
open Go.RowKit

section
variable {n i k : Nat} {zs : List Int} {W H v0 v1 v2 v3 x y : Int}
theorem inL_sb (h : layOk n zs W H = true) (hi : i < n) : inL (sbA n zs W H v0 v1 v2 v3) i = snB4 zs n W H v0 v1 v2 v3 i := by
  unfold inL sbA
  rw [if_pos h, Bool.eq_iff_iff, decide_eq_true_iff, sb_mem]
  exact ⟨fun h => h.2, fun h => ⟨hi, h⟩⟩
/-- A view that is a box's own rectangle sees the box, if it has points. -/
theorem sb_self {c0 c1 c2 c3 : Int} (h : layOk n zs W H = true) (hi : i < n) (hq : layR zs n W H i = (c0, c1, c2, c3)) (h2 : 0 < c2) (h3 : 0 < c3) : inL (sbA n zs W H c0 c1 c2 c3) i = true := by
  obtain ⟨hv, hW, hH⟩ := layOk_iff.1 h
  have hb := lay_vR hv hW hH hi
  rw [inL_sb h hi]
  unfold snB4
  rw [hq] at hb ⊢
  dsimp only at hb ⊢
  rw [mOk_iff]
  refine ⟨hb, hb, ?_, ?_⟩ <;> (unfold mW mn mx; omega)
/-- A view of one point sees the box that the point hits. -/
theorem sb_hit (h : layOk n zs W H = true) (hk : hitA zs n W H x y = (k : Int)) : inL (sbA n zs W H x y 1 1) k = true := by
  obtain ⟨hv, hW, hH⟩ := layOk_iff.1 h
  obtain ⟨hkn, hin⟩ := hit_in h hk
  have hb := lay_vR hv hW hH hkn
  have hi := inAll_in hin
  rw [inL_sb h hkn]
  unfold snB4
  unfold inB hR at hi
  have hi := of_decide_eq_true hi
  have l := lay_bd hv hW hH k hkn
  have d := dep_le5 hv hkn
  obtain ⟨l1, l2, l3, l4⟩ := l
  rw [mOk_iff]
  refine ⟨hb, vR_iff.2 (by omega), ?_, ?_⟩ <;> (unfold mW mn mx; omega)
/-- All boxes on the way to the box that is hit have the point. -/
theorem hit_path {q : Nat} (h : layOk n zs W H = true) (hk : hitA zs n W H x y = (k : Int)) (hq : q < (pathL zs k).length) : (pathL zs k).getD q 0 < n ∧ inB zs n W H x y ((pathL zs k).getD q 0) = true := by
  obtain ⟨hkn, hin⟩ := hit_in h hk
  have ha := (path_at hq).1
  have hle := anc_le ha
  exact ⟨by omega, inAll_in (inAll_anc ha hin)⟩
end
end Go.Proofs.YtigniaebokknmaaGreat
