/- Plain facts on layouts of trees that differ in one box's style: boxes that are not around it place their boxes as before. No condition. -/
import Derived.Test.YtobnjagmakhgpaaPadP
import Derived.Test.YtobnjagmakhgpaaYC
namespace Go.Proofs.Ytobnjagmakhgpaa
open Go.RowKit

section
variable {zs ys : List Int} {n a p i : Nat} {W H : Int}
/-- A box that is not around the styled one needs what it needed. -/
theorem nat_else (LZ : Link zs n) (LY : Link ys n) (ha : a < n) (hp : ∀ i, i < n → par ys i = par zs i) (hs : ∀ i j, i < n → i ≠ a → 1 ≤ j → j ≤ 8 → ys.getD (i * 9 + j) 0 = zs.getD (i * 9 + j) 0) : ∀ i, i < n → anc zs i a = false → natL ys n i = natL zs n i := by
  intro i
  generalize hd : n - i = d
  induction d using Nat.strongRecOn generalizing i with
  | ind d ih =>
    intro hi hna
    have hia : i ≠ a := fun e => by subst e; rw [anc_self] at hna; cases hna
    have ec : contL ys n i = contL zs n i := by
      unfold contL knd
      rw [hs i 1 hi hia (by omega) (by omega), hs i 2 hi hia (by omega) (by omega), hs i 3 hi hia (by omega) (by omega), hs i 5 hi hia (by omega) (by omega), kid_same hp]
      congr 1
      exact List.map_congr_left fun j hj => by
        obtain ⟨h1, h2, h3⟩ := LZ.kid_in hj
        refine ih (n - j) (by omega) j rfl h3 ?_
        cases hh : anc zs j a with
        | false => rfl
        | true =>
          have h4 : anc zs i j = true := by rw [anc_par (kid_mem.1 hj).2 h2 (by omega)]; exact anc_self zs i
          rw [anc_trans h4 hh] at hna; cases hna
    rw [nat_step LY hi, nat_step LZ hi, hs i 4 hi hia (by omega) (by omega), ec]
theorem flx_same {g g' : Nat → Int} : ∀ (l : List Nat), (∀ j ∈ l, g j = g' j ∧ ys.getD (j * 9 + 6) 0 = zs.getD (j * 9 + 6) 0 ∧ ys.getD (j * 9 + 7) 0 = zs.getD (j * 9 + 7) 0) → flxL g ys l = flxL g' zs l
  | [], _ => rfl
  | j :: l, h => by
    have ih := flx_same l (fun x hx => h x (List.mem_cons_of_mem _ hx))
    obtain ⟨h1, h2, h3⟩ := h j List.mem_cons_self
    unfold flxL at ih ⊢
    rw [List.flatMap_cons, List.flatMap_cons, ih, h1, h2, h3]
/-- A box that is not around the styled one, and keeps its rectangle, places its boxes as before. -/
theorem plc_else (LZ : Link zs n) (LY : Link ys n) (ha : a < n) (hp : ∀ i, i < n → par ys i = par zs i) (hs : ∀ i j, i < n → i ≠ a → 1 ≤ j → j ≤ 8 → ys.getD (i * 9 + j) 0 = zs.getD (i * 9 + j) 0) (hpn : p < n) (hna : anc zs p a = false) (q : Rq) : plcL ys n p q = plcL zs n p q := by
  have hpa : p ≠ a := fun e => by subst e; rw [anc_self] at hna; cases hna
  have kz := kid_same hp p
  have kj : ∀ j ∈ kidL zs n p, natL ys n j = natL zs n j ∧ ys.getD (j * 9 + 6) 0 = zs.getD (j * 9 + 6) 0 ∧ ys.getD (j * 9 + 7) 0 = zs.getD (j * 9 + 7) 0 := fun j hj => by
    obtain ⟨h1, h2, h3⟩ := LZ.kid_in hj
    have h4 : anc zs p j = true := by rw [anc_par (kid_mem.1 hj).2 h2 (by omega)]; exact anc_self zs p
    have h5 : anc zs j a = false := by
      cases hh : anc zs j a with
      | false => rfl
      | true => rw [anc_trans h4 hh] at hna; cases hna
    have h6 : j ≠ a := fun e => by subst e; rw [anc_self] at h5; cases h5
    exact ⟨nat_else LZ LY ha hp hs j h3 h5, hs j 6 h3 h6 (by omega) (by omega), hs j 7 h3 h6 (by omega) (by omega)⟩
  have f1 : flxL (fun j => (natL ys n j).1) ys (kidL zs n p) = flxL (fun j => (natL zs n j).1) zs (kidL zs n p) := flx_same _ fun j hj => by obtain ⟨h1, h2, h3⟩ := kj j hj; exact ⟨by rw [h1], h2, h3⟩
  have f2 : flxL (fun j => (natL ys n j).2) ys (kidL zs n p) = flxL (fun j => (natL zs n j).2) zs (kidL zs n p) := flx_same _ fun j hj => by obtain ⟨h1, h2, h3⟩ := kj j hj; exact ⟨by rw [h1], h2, h3⟩
  have hin : inQ ys p q = inQ zs p q := by unfold inQ; rw [hs p 4 hpn hpa (by omega) (by omega)]
  unfold plcL knd
  rw [hs p 1 hpn hpa (by omega) (by omega), hs p 5 hpn hpa (by omega) (by omega), hs p 8 hpn hpa (by omega) (by omega), kz, hin]
  split
  · unfold lineL ofL szL; rw [f1]
  · split
    · unfold lineL ofL szL; rw [f2]
    · unfold blkL topL
      refine List.map_congr_left fun t ht => ?_
      have ht := List.mem_range.1 ht
      have e1 : ((kidL zs n p).take t).map (fun j => (natL ys n j).2 + zs.getD (p * 9 + 5) 0) = ((kidL zs n p).take t).map (fun j => (natL zs n j).2 + zs.getD (p * 9 + 5) 0) := List.map_congr_left fun j hj => by rw [(kj j (List.mem_of_mem_take hj)).1]
      have e3 := (kj _ (getD_mem_n ht)).1
      dsimp only
      rw [e1, e3]
/-- A box in a box that is not around the styled one, and keeps its rectangle, keeps its own. -/
theorem lay_else (hv : vtB n zs = true) (hy : vtB n ys = true) (ha : a < n) (hp : ∀ i, i < n → par ys i = par zs i) (hs : ∀ i j, i < n → i ≠ a → 1 ≤ j → j ≤ 8 → ys.getD (i * 9 + j) 0 = zs.getD (i * 9 + j) 0) (hi : i < n) (hpi : par zs i = (p : Int)) (hna : anc zs p a = false) (hq : layR ys n W H p = layR zs n W H p) : layR ys n W H i = layR zs n W H i := by
  have LZ := link_vt hv; have LY := link_vt hy
  obtain ⟨_, hpi2⟩ := LZ.not_kid hi hpi
  obtain ⟨t, ht, et⟩ := List.getElem_of_mem (kid_mem.2 ⟨hi, hpi⟩ : i ∈ kidL zs n p)
  have gt : (kidL zs n p).getD t 0 = i := by simp [ht, et]
  have ht2 : t < (kidL ys n p).length := by rw [kid_same hp]; exact ht
  have gt2 : (kidL ys n p).getD t 0 = i := by rw [kid_same hp]; exact gt
  have e1 := lay_plc (W := W) (H := H) LZ ht
  have e2 := lay_plc (W := W) (H := H) LY ht2
  rw [gt] at e1
  rw [gt2] at e2
  rw [e1, e2, hq, plc_else LZ LY ha hp hs (by omega) hna]
end
end Go.Proofs.Ytobnjagmakhgpaa
