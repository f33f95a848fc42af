/- Plain facts on hits for their laws: when a point is on the screen; that no box directly in the box that is hit has the point. No condition. -/
import Derived.Test.YtokcbfnmnccacaaHitM
namespace Go.Proofs.Ytokcbfnmnccacaa
open Go.RowKit

section
variable {zs : List Int} {n : Nat} {W H x y : Int}
theorem lay_screen (hv : vtB n zs = true) : layR zs n W H 0 = (0, 0, W, H) := lay_top (by have := (link_vt hv).root (by have := (vtB_iff.1 hv).1; omega); omega)
theorem inB_screen (hv : vtB n zs = true) : inB zs n W H x y 0 = decide (0 ≤ x ∧ x < W ∧ 0 ≤ y ∧ y < H) := by
  unfold inB hR
  rw [lay_screen hv]
  dsimp only
  exact decide_eq_decide.2 ⟨fun h => by omega, fun h => by omega⟩
theorem hit_lt (h : layOk n zs W H = true) : -1 ≤ hitA zs n W H x y ∧ hitA zs n W H x y < (n : Int) := by
  rw [hitA_yes h]; exact lastIn_lt n
/-- A point hits a box exactly if it is on the screen. -/
theorem hit_screen (h : layOk n zs W H = true) : hitA zs n W H x y = -1 ↔ ¬ (0 ≤ x ∧ x < W ∧ 0 ≤ y ∧ y < H) := by
  obtain ⟨hv, hW, hH⟩ := layOk_iff.1 h
  have hL := link_vt hv
  have n1 := (vtB_iff.1 hv).1
  have e0 : inAll zs n W H x y 0 = decide (0 ≤ x ∧ x < W ∧ 0 ≤ y ∧ y < H) := by
    rw [inAll_top (by have := hL.root (by omega); omega), inB_screen hv]
  rw [hitA_yes h]
  refine ⟨fun he hs => ?_, fun hs => lastIn_no fun j hj => ?_⟩
  · have h0 : inAll zs n W H x y 0 = true := by rw [e0]; exact decide_eq_true hs
    have key : ∀ k, 0 < k → lastIn zs n W H x y k ≠ -1 := fun k => by
      induction k with
      | zero => intro h; omega
      | succ k ih =>
        intro _ h1
        unfold lastIn at h1
        split at h1
        · omega
        · next h2 =>
          rcases Nat.eq_zero_or_pos k with h3 | h3
          · subst h3; exact h2 h0
          · exact ih h3 h1
    exact key n (by omega) he
  · cases hin : inAll zs n W H x y j
    · rfl
    · have := inAll_anc (hL.root_anc hj) hin
      rw [e0] at this
      exact absurd (of_decide_eq_true this) hs
theorem hit_in {k : Nat} (h : layOk n zs W H = true) (hk : hitA zs n W H x y = (k : Int)) : k < n ∧ inAll zs n W H x y k = true := by
  have h1 := hit_lt (x := x) (y := y) h
  rw [hk] at h1
  rw [hitA_yes h] at hk
  exact ⟨by omega, lastIn_in hk⟩
/-- No box directly in the box that is hit has the point. -/
theorem hit_inner {k j : Nat} (h : layOk n zs W H = true) (hk : hitA zs n W H x y = (k : Int)) (hj : j ∈ kidL zs n k) : inB zs n W H x y j = false := by
  obtain ⟨hv, hW, hH⟩ := layOk_iff.1 h
  obtain ⟨hk1, hk2⟩ := hit_in h hk
  obtain ⟨hjn, hjp⟩ := kid_mem.1 hj
  obtain ⟨_, hkj⟩ := (link_vt hv).not_kid hjn hjp
  rw [hitA_yes h] at hk
  cases hb : inB zs n W H x y j
  · rfl
  · have ha : inAll zs n W H x y j = true := by rw [inAll_par hjp hkj, hb, hk2]; rfl
    have key : ∀ m, j < m → (k : Int) < lastIn zs n W H x y m := fun m => by
      induction m with
      | zero => intro h; omega
      | succ m ih =>
        intro hm
        unfold lastIn
        split
        · omega
        · next h2 =>
          by_cases e : j = m
          · subst e; exact absurd ha h2
          · exact ih (by omega)
    have := key n hjn
    omega
end
end Go.Proofs.Ytokcbfnmnccacaa
