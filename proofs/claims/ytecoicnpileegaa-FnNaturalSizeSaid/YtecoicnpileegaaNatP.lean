/- Plain facts on natural sizes for the laws of chapter 5: the widest of a box's boxes, and how wide a box of boxes is. -/
import Derived.Test.YtecoicnpileegaaNatZ
import Derived.Test.YtecoicnpileegaaTreeP
namespace Go.Proofs.Ytecoicnpileegaa
open Go.RowKit

theorem widF_mem (f : Nat → Int) : ∀ (l : List Nat) (s : Int × Int), (widF f l s = s ∨ ∃ j ∈ l, widF f l s = ((j : Int), f j)) ∧ s.2 ≤ (widF f l s).2 ∧ ∀ x ∈ l, f x ≤ (widF f l s).2
  | [], s => ⟨Or.inl rfl, Int.le_refl _, fun _ h => absurd h List.not_mem_nil⟩
  | j :: l, s => by
    obtain ⟨h1, h2, h3⟩ := widF_mem f l (if s.2 < f j then ((j : Int), f j) else s)
    have e : widF f (j :: l) s = widF f l (if s.2 < f j then ((j : Int), f j) else s) := rfl
    rw [e]
    by_cases hlt : s.2 < f j
    · rw [if_pos hlt] at h1 h2 h3 ⊢
      refine ⟨Or.inr ?_, by omega, fun x hx => ?_⟩
      · rcases h1 with h1 | ⟨k, hk, h1⟩
        · exact ⟨j, List.mem_cons_self, h1⟩
        · exact ⟨k, List.mem_cons_of_mem _ hk, h1⟩
      · rcases List.mem_cons.1 hx with rfl | hx
        · exact h2
        · exact h3 x hx
    · rw [if_neg hlt] at h1 h2 h3 ⊢
      refine ⟨?_, h2, fun x hx => ?_⟩
      · rcases h1 with h1 | ⟨k, hk, h1⟩
        · exact Or.inl h1
        · exact Or.inr ⟨k, List.mem_cons_of_mem _ hk, h1⟩
      · rcases List.mem_cons.1 hx with rfl | hx
        · omega
        · exact h3 x hx
theorem widA_no {n : Nat} {zs : List Int} {at_ : Int} (h : nodeOk n zs at_ = false) : widA n zs at_ = -1 := by unfold widA; rw [h]; rfl
/-- The widest of a box's boxes is one of them, and no other is wider. -/
theorem widA_at {n i : Nat} {zs : List Int} (hv : vtB n zs = true) (hi : i < n) (h0 : 0 < (kidL zs n i).length) : ∃ j, j ∈ kidL zs n i ∧ j < n ∧ widA n zs (i : Int) = (j : Int) ∧ (natL zs n j).1 = foldMx ((kidL zs n i).map fun x => (natL zs n x).1) := by
  have e : widA n zs (i : Int) = (widF (fun j => (natL zs n j).1) (kidL zs n i) (-1, -1)).1 := by unfold widA; rw [if_pos (nodeOk_iff.2 ⟨hv, i, rfl, hi⟩), Int.toNat_natCast]
  obtain ⟨h1, _, h3⟩ := widF_mem (fun j => (natL zs n j).1) (kidL zs n i) (-1, -1)
  have hg : ∀ x ∈ kidL zs n i, 0 ≤ (natL zs n x).1 := fun x hx => (nat_bd hv (kid_mem.1 hx).1).1
  rcases h1 with h1 | ⟨j, hj, h1⟩
  · exfalso
    have hm := kid_get h0
    have h4 := h3 _ hm
    have h5 := hg _ hm
    rw [h1] at h4
    dsimp only at h4
    omega
  · refine ⟨j, hj, (kid_mem.1 hj).1, by rw [e, h1], ?_⟩
    rw [h1] at h3
    dsimp only at h3
    have hge := (foldMx_ge ((kidL zs n i).map fun x => (natL zs n x).1)).2 _ (List.mem_map.2 ⟨j, hj, rfl⟩)
    have hle := foldMx_le ((kidL zs n i).map fun x => (natL zs n x).1) (hg j hj) (fun y hy => by
      obtain ⟨x, hx, rfl⟩ := List.mem_map.1 hy
      exact h3 x hx)
    omega
theorem widF_first (f : Nat → Int) : ∀ (l : List Nat) (s : Int × Int), l.Pairwise (· < ·) → (widF f l s = s ∧ ∀ x ∈ l, f x ≤ s.2) ∨ ∃ j ∈ l, widF f l s = ((j : Int), f j) ∧ s.2 < f j ∧ ∀ x ∈ l, f x ≤ f j ∧ (f x = f j → j ≤ x)
  | [], _, _ => Or.inl ⟨rfl, fun _ h => absurd h List.not_mem_nil⟩
  | j :: l, s, hp => by
    obtain ⟨hp1, hp2⟩ := List.pairwise_cons.1 hp
    have h1 := widF_first f l (if s.2 < f j then ((j : Int), f j) else s) hp2
    have e : widF f (j :: l) s = widF f l (if s.2 < f j then ((j : Int), f j) else s) := rfl
    rw [e]
    by_cases hlt : s.2 < f j
    · rw [if_pos hlt] at h1 ⊢
      right
      rcases h1 with ⟨h1, h2⟩ | ⟨k, hk, h1, h2, h3⟩
      · refine ⟨j, List.mem_cons_self, h1, hlt, fun x hx => ?_⟩
        rcases List.mem_cons.1 hx with rfl | hx
        · exact ⟨Int.le_refl _, fun _ => Nat.le_refl _⟩
        · exact ⟨h2 x hx, fun _ => Nat.le_of_lt (hp1 x hx)⟩
      · dsimp only at h2
        refine ⟨k, List.mem_cons_of_mem _ hk, h1, by omega, fun x hx => ?_⟩
        rcases List.mem_cons.1 hx with rfl | hx
        · exact ⟨by omega, fun h => by omega⟩
        · exact h3 x hx
    · rw [if_neg hlt] at h1 ⊢
      rcases h1 with ⟨h1, h2⟩ | ⟨k, hk, h1, h2, h3⟩
      · refine Or.inl ⟨h1, fun x hx => ?_⟩
        rcases List.mem_cons.1 hx with rfl | hx
        · omega
        · exact h2 x hx
      · refine Or.inr ⟨k, List.mem_cons_of_mem _ hk, h1, h2, fun x hx => ?_⟩
        rcases List.mem_cons.1 hx with rfl | hx
        · exact ⟨by omega, fun h => by omega⟩
        · exact h3 x hx
/-- The widest of a box's boxes is the first of those that are as wide. -/
theorem widA_first {n i : Nat} {zs : List Int} (hv : vtB n zs = true) (hi : i < n) (h0 : 0 < (kidL zs n i).length) : ∃ j, j ∈ kidL zs n i ∧ j < n ∧ widA n zs (i : Int) = (j : Int) ∧ ∀ x ∈ kidL zs n i, (natL zs n x).1 ≤ (natL zs n j).1 ∧ ((natL zs n x).1 = (natL zs n j).1 → j ≤ x) := by
  have e : widA n zs (i : Int) = (widF (fun j => (natL zs n j).1) (kidL zs n i) (-1, -1)).1 := by unfold widA; rw [if_pos (nodeOk_iff.2 ⟨hv, i, rfl, hi⟩), Int.toNat_natCast]
  rcases widF_first (fun j => (natL zs n j).1) (kidL zs n i) (-1, -1) (kid_sorted zs n i) with ⟨_, h2⟩ | ⟨j, hj, h1, _, h3⟩
  · exfalso
    have hm := kid_get h0
    have h4 := h2 _ hm
    have h5 := (nat_bd hv (kid_mem.1 hm).1).1
    dsimp only at h4
    omega
  · exact ⟨j, hj, (kid_mem.1 hj).1, by rw [e, h1], h3⟩
/-- A block with boxes is as wide as the widest of them and twice its pad. -/
theorem nat_block {n i : Nat} {zs : List Int} (hv : vtB n zs = true) (hi : i < n) (h0 : knd zs i ≠ 0) (h2 : knd zs i ≠ 2) : (natL zs n i).1 = foldMx ((kidL zs n i).map fun x => (natL zs n x).1) + 2 * zs.getD (i * 9 + 4) 0 := by
  rw [nat_step (link_vt hv) hi]
  unfold contL contP
  rw [if_neg h0, if_neg h2]
  show foldMx ((((kidL zs n i).map (natL zs n)).map turnP).map Prod.snd) + _ = _
  rw [turn_snd, List.map_map]
  rfl
theorem sum_mem {f : Nat → Int} : ∀ (l : List Nat), (∀ x ∈ l, 0 ≤ f x) → ∀ x ∈ l, f x ≤ (l.map f).sum
  | [], _, _, h => absurd h List.not_mem_nil
  | y :: l, h, x, hx => by
    have h0 := h y List.mem_cons_self
    have h1 := sum_ge0 l fun z hz => h z (List.mem_cons_of_mem _ hz)
    simp only [List.map_cons, List.sum_cons]
    rcases List.mem_cons.1 hx with rfl | hx
    · omega
    · have h2 := sum_mem l (fun z hz => h z (List.mem_cons_of_mem _ hz)) x hx
      omega
/-- What one of several sizes side by side takes. -/
theorem sbs_ge {g : Int} (hg : 0 ≤ g) (l : List Nat) (f : Nat → Int × Int) (hf : ∀ x ∈ l, 0 ≤ (f x).1) (j : Nat) (hj : j ∈ l) : (f j).1 ≤ (sbs g (l.map f)).1 ∧ (f j).2 ≤ (sbs g (l.map f)).2 := by
  unfold sbs
  refine ⟨?_, ?_⟩
  · have h1 := sum_mem (f := fun x => (f x).1) l hf j hj
    have h2 : 0 ≤ g * mx 0 (((l.map f).length : Int) - 1) := Int.mul_nonneg hg (by unfold mx; omega)
    have e : ((l.map f).map Prod.fst).sum = (l.map fun x => (f x).1).sum := by rw [List.map_map]; rfl
    show (f j).1 ≤ g * mx 0 (((l.map f).length : Int) - 1) + ((l.map f).map Prod.fst).sum
    rw [e]
    omega
  · exact (foldMx_ge _).2 _ (List.mem_map.2 ⟨f j, List.mem_map.2 ⟨j, hj, rfl⟩, rfl⟩)
/-- A box needs room for each of its boxes and twice its pad. -/
theorem nat_kid {n i j : Nat} {zs : List Int} (hv : vtB n zs = true) (hi : i < n) (hj : j ∈ kidL zs n i) : (natL zs n j).1 + 2 * zs.getD (i * 9 + 4) 0 ≤ (natL zs n i).1 ∧ (natL zs n j).2 + 2 * zs.getD (i * 9 + 4) 0 ≤ (natL zs n i).2 := by
  have kn := kid_kind hv hj
  obtain ⟨_, _, _, _, hg, _⟩ := ((vtB_iff.1 hv).2 i hi).1
  have hf1 : ∀ x ∈ kidL zs n i, 0 ≤ (natL zs n x).1 := fun x hx => (nat_bd hv (kid_mem.1 hx).1).1
  have hf2 : ∀ x ∈ kidL zs n i, 0 ≤ (natL zs n x).2 := fun x hx => (nat_bd hv (kid_mem.1 hx).1).2.2.1
  rw [nat_step (link_vt hv) hi]
  unfold contL contP
  rw [if_neg kn]
  by_cases hk : knd zs i = 2
  · rw [if_pos hk]
    have h := sbs_ge hg.1 (kidL zs n i) (natL zs n) hf1 j hj
    dsimp only
    omega
  · rw [if_neg hk, List.map_map]
    have h := sbs_ge hg.1 (kidL zs n i) (turnP ∘ natL zs n) hf2 j hj
    have e1 : ((turnP ∘ natL zs n) j).1 = (natL zs n j).2 := rfl
    have e2 : ((turnP ∘ natL zs n) j).2 = (natL zs n j).1 := rfl
    rw [e1, e2] at h
    unfold turnP
    dsimp only
    unfold turnP at h
    omega
theorem sum_snoc_i : ∀ (l : List Int) (x : Int), (l ++ [x]).sum = l.sum + x
  | [], x => (by simp)
  | y :: l, x => by
    have h := sum_snoc_i l x
    simp only [List.cons_append, List.sum_cons]
    omega
theorem sum_take {f : Nat → Int} {l : List Nat} {t : Nat} (ht : t < l.length) : ((l.take (t + 1)).map f).sum = ((l.take t).map f).sum + f (l.getD t 0) := by
  rw [List.take_succ_eq_append_getElem ht, List.map_append, show l.getD t 0 = l[t] by simp [ht]]
  exact sum_snoc_i _ _
/-- A row is as wide as its boxes and gaps and twice its pad; any other box with boxes is so high. -/
theorem nat_row {n i : Nat} {zs : List Int} (hv : vtB n zs = true) (hi : i < n) (hk : knd zs i = 2) : (natL zs n i).1 = 2 * zs.getD (i * 9 + 4) 0 + zs.getD (i * 9 + 5) 0 * mx 0 (((kidL zs n i).length : Int) - 1) + ((kidL zs n i).map fun x => (natL zs n x).1).sum := by
  rw [nat_step (link_vt hv) hi]
  unfold contL contP
  rw [if_neg (by rw [hk]; omega), if_pos hk]
  show zs.getD (i * 9 + 5) 0 * mx 0 ((((kidL zs n i).map (natL zs n)).length : Int) - 1) + (((kidL zs n i).map (natL zs n)).map Prod.fst).sum + 2 * zs.getD (i * 9 + 4) 0 = _
  rw [List.length_map, List.map_map, show (Prod.fst ∘ natL zs n) = fun x => (natL zs n x).1 from rfl]
  omega
theorem nat_col {n i : Nat} {zs : List Int} (hv : vtB n zs = true) (hi : i < n) (h0 : knd zs i ≠ 0) (hk : knd zs i ≠ 2) : (natL zs n i).2 = 2 * zs.getD (i * 9 + 4) 0 + zs.getD (i * 9 + 5) 0 * mx 0 (((kidL zs n i).length : Int) - 1) + ((kidL zs n i).map fun x => (natL zs n x).2).sum := by
  rw [nat_step (link_vt hv) hi]
  unfold contL contP
  rw [if_neg h0, if_neg hk]
  show zs.getD (i * 9 + 5) 0 * mx 0 (((((kidL zs n i).map (natL zs n)).map turnP).length : Int) - 1) + ((((kidL zs n i).map (natL zs n)).map turnP).map Prod.fst).sum + 2 * zs.getD (i * 9 + 4) 0 = _
  rw [turn_fst, List.length_map, List.length_map, List.map_map, show (Prod.snd ∘ natL zs n) = fun x => (natL zs n x).2 from rfl]
  omega
theorem nat_leaf {n i : Nat} {zs : List Int} (hv : vtB n zs = true) (hi : i < n) (h0 : knd zs i = 0) : natL zs n i = (zs.getD (i * 9 + 2) 0 + 2 * zs.getD (i * 9 + 4) 0, zs.getD (i * 9 + 3) 0 + 2 * zs.getD (i * 9 + 4) 0) := by
  rw [nat_step (link_vt hv) hi]
  unfold contL contP
  rw [if_pos h0]
theorem nat_none {n i : Nat} {zs : List Int} (hv : vtB n zs = true) (hi : i < n) (h0 : knd zs i ≠ 0) (hk : (kidL zs n i).length = 0) : (natL zs n i).1 = 2 * zs.getD (i * 9 + 4) 0 ∧ (natL zs n i).2 = 2 * zs.getD (i * 9 + 4) 0 := by
  rw [nat_step (link_vt hv) hi]
  unfold contL contP
  rw [if_neg h0, List.eq_nil_of_length_eq_zero hk]
  have e0 : mx 0 ((([] : List (Int × Int)).length : Int) - 1) = 0 := by unfold mx; simp only [List.length_nil]; omega
  have e : sbs (zs.getD (i * 9 + 5) 0) [] = (0, 0) := by unfold sbs; rw [e0, Int.mul_zero]; rfl
  by_cases h2 : knd zs i = 2
  · rw [if_pos h2, List.map_nil, e]; dsimp only; omega
  · rw [if_neg h2, List.map_nil, List.map_nil, e]; unfold turnP; dsimp only; omega
theorem nat_ge {n i : Nat} {zs : List Int} (hv : vtB n zs = true) (hi : i < n) (h0 : knd zs i ≠ 0) : 2 * zs.getD (i * 9 + 4) 0 ≤ (natL zs n i).1 ∧ 2 * zs.getD (i * 9 + 4) 0 ≤ (natL zs n i).2 := by
  rcases Nat.eq_zero_or_pos (kidL zs n i).length with h | h
  · have h1 := nat_none hv hi h0 h
    omega
  · have hm := kid_get h
    have h1 := nat_kid hv hi hm
    have h2 := nat_bd hv (kid_mem.1 hm).1
    omega
end Go.Proofs.Ytecoicnpileegaa
