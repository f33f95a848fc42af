/- Plain facts on corners: the corner of a box that does not spill, and that no box around it spills, hits a box in it. No condition. -/
import Derived.Test.YtigniaebokknmaaGreatSpP
import Derived.Test.YtigniaebokknmaaGreatSbP
namespace Go.Proofs.YtigniaebokknmaaGreat
open Go.RowKit

section
variable {n i h : Nat} {zs : List Int} {W H x y : Int}
theorem inQ_sub {p : Nat} {q : Rq} (hp : 0 ≤ zs.getD (p * 9 + 4) 0 ∧ zs.getD (p * 9 + 4) 0 ≤ 50) (h2 : 0 ≤ q.2.2.1) (h3 : 0 ≤ q.2.2.2) : q.1 ≤ (inQ zs p q).1 ∧ (inQ zs p q).1 + (inQ zs p q).2.2.1 ≤ q.1 + q.2.2.1 ∧ q.2.1 ≤ (inQ zs p q).2.1 ∧ (inQ zs p q).2.1 + (inQ zs p q).2.2.2 ≤ q.2.1 + q.2.2.2 := by
  unfold inQ nL nW mn mx
  dsimp only
  omega
/-- A box that does not spill, and none around it, is in each box around it. -/
theorem in_around {a : Nat} (hok : layOk n zs W H = true) : ∀ i, i < n → anc zs a i = true → (∀ b, anc zs b i = true → inL (spA n zs W H) b = false) →
    (layR zs n W H a).1 ≤ (layR zs n W H i).1 ∧ (layR zs n W H i).1 + (layR zs n W H i).2.2.1 ≤ (layR zs n W H a).1 + (layR zs n W H a).2.2.1 ∧ (layR zs n W H a).2.1 ≤ (layR zs n W H i).2.1 ∧ (layR zs n W H i).2.1 + (layR zs n W H i).2.2.2 ≤ (layR zs n W H a).2.1 + (layR zs n W H a).2.2.2 := by
  obtain ⟨hv, hW, hH⟩ := layOk_iff.1 hok
  intro i
  induction i using Nat.strongRecOn with
  | ind i ih =>
    intro hi ha hs
    by_cases hn : i = a
    · subst hn; omega
    · have hL := link_vt hv
      have h0 : 0 < i := by have := anc_le ha; omega
      obtain ⟨p, e, hp, _⟩ := hL.up i h0 hi
      have hap := ha
      rw [anc_par e hp hn] at hap
      have up : ∀ b, anc zs b p = true → anc zs b i = true := fun b hb => by
        have := anc_le hb
        rw [anc_par e hp (by omega)]; exact hb
      have k := ih p hp (by omega) hap (fun b hb => hs b (up b hb))
      have s := hs i (anc_self _ _)
      have hb := lay_bd hv hW hH p (by omega)
      have sub := inQ_sub (zs := zs) (p := p) (q := layR zs n W H p) (pad_bd hv (by omega)) hb.2.2.1.1 hb.2.2.2.1
      have ns : splB zs n W H i = false := by
        cases hsp : splB zs n W H i
        · rfl
        · unfold inL spA at s
          rw [if_pos hok] at s
          exact absurd (sp_mem.2 ⟨h0, hi, hsp⟩) (of_decide_eq_false s)
      unfold splB at ns
      rw [e, Int.toNat_natCast] at ns
      have nn : ¬ ((layR zs n W H i).1 < (inQ zs p (layR zs n W H p)).1 ∨ (layR zs n W H i).2.1 < (inQ zs p (layR zs n W H p)).2.1 ∨ (inQ zs p (layR zs n W H p)).1 + (inQ zs p (layR zs n W H p)).2.2.1 < (layR zs n W H i).1 + (layR zs n W H i).2.2.1 ∨ (inQ zs p (layR zs n W H p)).2.1 + (inQ zs p (layR zs n W H p)).2.2.2 < (layR zs n W H i).2.1 + (layR zs n W H i).2.2.2) := fun hc => by
        have := splQ_iff.2 hc
        rw [ns] at this; cases this
      omega
theorem inAll_of : ∀ i, (∀ a, anc zs a i = true → inB zs n W H x y a = true) → inAll zs n W H x y i = true := by
  intro i
  induction i using Nat.strongRecOn with
  | ind i ih =>
    intro h
    rcases par_cases zs i with ⟨p, e, hp⟩ | h3
    · rw [inAll_par e hp, h i (anc_self _ _), Bool.true_and]
      refine ih p hp fun a ha => h a ?_
      have := anc_le ha
      rw [anc_par e hp (by omega)]; exact ha
    · rw [inAll, dif_neg h3]; exact h i (anc_self _ _)
theorem lastIn_ge : ∀ {k j : Nat}, j < k → inAll zs n W H x y j = true → (j : Int) ≤ lastIn zs n W H x y k
  | 0, j, h, _ => absurd h (by omega)
  | k + 1, j, h, hj => by
    unfold lastIn
    split
    · omega
    · next h2 =>
      by_cases e : j = k
      · subst e; exact absurd hj h2
      · exact lastIn_ge (by omega) hj
/-- Of two boxes that have a point, with all boxes around them, one is around the other. -/
theorem inAll_chain (hv : vtB n zs = true) (hW : 0 ≤ W ∧ W ≤ 10000) (hH : 0 ≤ H ∧ H ≤ 10000) (hi : inAll zs n W H x y i = true) : ∀ h, i ≤ h → h < n → inAll zs n W H x y h = true → anc zs i h = true := by
  intro h
  induction h using Nat.strongRecOn with
  | ind h ih =>
    intro hle hn hh
    by_cases e0 : h = i
    · rw [e0]; exact anc_self _ _
    · have hL := link_vt hv
      obtain ⟨p, e, hp, _⟩ := hL.up h (by omega) hn
      have hh2 := hh
      rw [inAll_par e hp, Bool.and_eq_true] at hh2
      rcases Nat.lt_or_ge p i with hpi | hpi
      · exfalso
        have hanc : anc zs p i = true := hL.between (i := h) hn (by rw [anc_par e hp (by omega)]; exact anc_self _ _) (by omega) (by omega)
        obtain ⟨c, hc1, hc2, hc3⟩ := anc_kid hanc (by omega)
        have hci := anc_le hc3
        exact inB_apart hv hW hH hc1 e (by omega) hn (inAll_in (inAll_anc hc3 hi)) hh2.1
      · rw [anc_par e hp e0]
        exact ih p hp hpi (by omega) hh2.2
/-- The corner of a box with points that does not spill, and that no box around it spills. -/
theorem corner (hok : layOk n zs W H = true) (hi : i < n) (hw : 0 < (layR zs n W H i).2.2.1) (hh : 0 < (layR zs n W H i).2.2.2) (hs : ∀ b, anc zs b i = true → inL (spA n zs W H) b = false) :
    ∃ k : Nat, hitA zs n W H (layR zs n W H i).1 (layR zs n W H i).2.1 = (k : Int) ∧ k < n ∧ anc zs i k = true := by
  obtain ⟨hv, hW, hH⟩ := layOk_iff.1 hok
  have ia : inAll zs n W H (layR zs n W H i).1 (layR zs n W H i).2.1 i = true := inAll_of i fun a ha => by
    have := in_around (a := a) hok i hi ha hs
    unfold inB hR
    exact decide_eq_true (by omega)
  have hl := lastIn_lt (zs := zs) (n := n) (W := W) (H := H) (x := (layR zs n W H i).1) (y := (layR zs n W H i).2.1) n
  have hg := lastIn_ge hi ia
  rw [hitA_yes hok]
  obtain ⟨k, hk⟩ : ∃ k : Nat, lastIn zs n W H (layR zs n W H i).1 (layR zs n W H i).2.1 n = (k : Int) := ⟨(lastIn zs n W H (layR zs n W H i).1 (layR zs n W H i).2.1 n).toNat, by omega⟩
  rw [hk] at hl hg
  exact ⟨k, hk, by omega, inAll_chain hv hW hH ia k (by omega) (by omega) (lastIn_in hk)⟩
end
end Go.Proofs.YtigniaebokknmaaGreat
