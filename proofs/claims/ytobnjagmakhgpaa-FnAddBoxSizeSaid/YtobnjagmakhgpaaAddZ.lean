/- Plain facts on sizes of trees with a box more: no box needs less. No condition. -/
import Derived.Test.YtobnjagmakhgpaaEdA
import Derived.Test.YtobnjagmakhgpaaZG
namespace Go.Proofs.Ytobnjagmakhgpaa
open Go.RowKit

/-- As large in both directions. -/
def leP (a b : Int × Int) : Prop := a.1 ≤ b.1 ∧ a.2 ≤ b.2
section
variable {zs L : List Int} {n a e i u : Nat} {g : Int}
theorem Added.par_iff (h : Added zs L n a e) (hL : Link zs n) (hi : i < n) (u : Nat) : (par L (sh e i) = ((sh e u : Nat) : Int)) ↔ (par zs i = (u : Int)) := by
  have h1 := h.ha
  rcases Nat.eq_zero_or_pos i with h0 | h0
  · subst h0
    rw [sh_low (by omega), h.root hL, hL.root (by omega)]
    constructor <;> (intro h; omega)
  · obtain ⟨p, p1, p2, _⟩ := hL.up i h0 hi
    rw [h.par_sh hi p1 p2, p1]
    constructor
    · intro h2
      have h3 : sh e p = sh e u := by omega
      rcases Nat.decEq p u with h4 | h4
      · exact absurd h3 (sh_inj h4)
      · omega
    · intro h2
      obtain rfl : p = u := by omega
      rfl
theorem range_sh (e d : Nat) : List.range (e + d + 1) = (List.range e).map (sh e) ++ ([e] ++ ((List.range d).map (e + ·)).map (sh e)) := by
  have h1 : (List.range e).map (sh e) = List.range e := by
    conv => rhs; rw [← List.map_id (List.range e)]
    exact List.map_congr_left fun i hi => sh_low (List.mem_range.1 hi)
  have h2 : ((List.range d).map (e + ·)).map (sh e) = (List.range d).map (fun k => e + (1 + k)) := by
    rw [List.map_map]
    exact List.map_congr_left fun k _ => by show sh e (e + k) = _; rw [sh_up (by omega)]; omega
  rw [h1, h2, show e + d + 1 = e + (1 + d) by omega, List.range_add, List.range_add, List.map_append, List.map_map]
  rfl
/-- The boxes directly in any other box. -/
theorem Added.kids_else (h : Added zs L n a e) (hL : Link zs n) (hu : u ≠ a) : kidL L (n + 1) (sh e u) = (kidL zs n u).map (sh e) := by
  have hn := h.hn; have ha := h.ha
  obtain ⟨d, rfl⟩ : ∃ d, n = e + d := ⟨n - e, by omega⟩
  have mid : [e].filter (fun i => decide (par L i = ((sh e u : Nat) : Int))) = [] := by
    have hne : ¬ par L e = ((sh e u : Nat) : Int) := by
      rw [h.new]
      have h2 := sh_inj (e := e) hu
      rw [sh_low (show a < e from ha)] at h2
      omega
    rw [List.filter_cons, if_neg (by simpa using hne), List.filter_nil]
  have c1 : (List.range e).filter ((fun i => decide (par L i = ((sh e u : Nat) : Int))) ∘ sh e) = (List.range e).filter (fun i => decide (par zs i = (u : Int))) := List.filter_congr fun i hi => decide_eq_decide.2 (h.par_iff hL (by have := List.mem_range.1 hi; omega) u)
  have c2 : ((List.range d).map (e + ·)).filter ((fun i => decide (par L i = ((sh e u : Nat) : Int))) ∘ sh e) = ((List.range d).map (e + ·)).filter (fun i => decide (par zs i = (u : Int))) := List.filter_congr fun i hi => by
    obtain ⟨k, hk, rfl⟩ := List.mem_map.1 hi
    have hk := List.mem_range.1 hk
    exact decide_eq_decide.2 (h.par_iff hL (by omega) u)
  unfold kidL
  rw [range_sh, List.filter_append, List.filter_append, List.filter_map, List.filter_map, mid, c1, c2, List.nil_append, ← List.map_append, ← List.filter_append]
  rw [← List.range_add]
theorem foldMx_mono {f f' : Nat → Int} (l : List Nat) (h : ∀ j ∈ l, f j ≤ f' j) : foldMx (l.map f) ≤ foldMx (l.map f') :=
  foldMx_le _ (foldMx_ge _).1 fun x hx => by
    obtain ⟨j, hj, rfl⟩ := List.mem_map.1 hx
    exact Int.le_trans (h j hj) ((foldMx_ge _).2 _ (List.mem_map.2 ⟨j, hj, rfl⟩))
theorem sbs_mono {f f' : Nat → Int × Int} (l : List Nat) (h : ∀ j ∈ l, leP (f j) (f' j)) : leP (sbs g (l.map f)) (sbs g (l.map f')) := by
  unfold leP sbs
  dsimp only
  rw [List.length_map, List.length_map, List.map_map, List.map_map, List.map_map, List.map_map]
  refine ⟨?_, foldMx_mono l fun j hj => (h j hj).2⟩
  have := sum_monoN (f := Prod.fst ∘ f) (g := Prod.fst ∘ f') l fun j hj => (h j hj).1
  omega
theorem sbs_snoc (hg : 0 ≤ g) (ss : List (Int × Int)) (s : Int × Int) (h1 : 0 ≤ s.1) : leP (sbs g ss) (sbs g (ss ++ [s])) := by
  unfold leP sbs
  dsimp only
  rw [List.length_append, List.map_append, List.map_append, List.sum_append]
  refine ⟨?_, ?_⟩
  · have h2 : g * mx 0 ((ss.length : Int) - 1) ≤ g * mx 0 (((ss.length + [s].length : Nat) : Int) - 1) := Int.mul_le_mul_of_nonneg_left (by unfold mx; simp; omega) hg
    simp only [List.map_cons, List.map_nil, List.sum_cons, List.sum_nil]
    omega
  · simp only [List.map_cons, List.map_nil]
    rw [foldMx_snoc]
    unfold mx; omega
theorem leP_turn {x y : Int × Int} (h : leP x y) : leP (turnP x) (turnP y) := ⟨h.2, h.1⟩
theorem cont_mono {k w ht : Int} {f f' : Nat → Int × Int} (l : List Nat) (h : ∀ j ∈ l, leP (f j) (f' j)) : leP (contP k g w ht (l.map f)) (contP k g w ht (l.map f')) := by
  unfold contP
  split
  · exact ⟨Int.le_refl _, Int.le_refl _⟩
  · split
    · exact sbs_mono l h
    · rw [List.map_map, List.map_map]
      exact leP_turn (sbs_mono (f := turnP ∘ f) (f' := turnP ∘ f') l fun j hj => leP_turn (h j hj))
theorem cont_snoc {k w ht : Int} (hg : 0 ≤ g) (ss : List (Int × Int)) (s : Int × Int) (h1 : 0 ≤ s.1) (h2 : 0 ≤ s.2) : leP (contP k g w ht ss) (contP k g w ht (ss ++ [s])) := by
  unfold contP
  split
  · exact ⟨Int.le_refl _, Int.le_refl _⟩
  · split
    · exact sbs_snoc hg ss s h1
    · rw [List.map_append]
      exact leP_turn (sbs_snoc hg _ _ h2)
theorem leP.trans {x y z : Int × Int} (h : leP x y) (k : leP y z) : leP x z := ⟨Int.le_trans h.1 k.1, Int.le_trans h.2 k.2⟩
/-- No box of a tree with a box more needs less. -/
theorem nat_add (hv : vtB n zs = true) (hw : vtB (n + 1) L = true) (h : Added zs L n a e) (he : e = en zs n a) (hs : ∀ i j, i < n → 1 ≤ j → j ≤ 5 → L.getD (sh e i * 9 + j) 0 = zs.getD (i * 9 + j) 0) : ∀ i, i < n → leP (natL zs n i) (natL L (n + 1) (sh e i)) := by
  have LZ := link_vt hv; have LW := link_vt hw
  have ha := h.ha; have hn := h.hn
  intro i
  generalize hd : n - i = d
  induction d using Nat.strongRecOn generalizing i with
  | ind d ih =>
    intro hi
    have hsi : sh e i < n + 1 := by unfold sh; split <;> omega
    rw [nat_step LZ hi, nat_step LW hsi, hs i 4 hi (by omega) (by omega)]
    have g0 : 0 ≤ zs.getD (i * 9 + 5) 0 := ((vtB_iff.1 hv).2 i hi).1.2.2.2.2.1.1
    suffices hc : leP (contL zs n i) (contL L (n + 1) (sh e i)) from ⟨by have := hc.1; dsimp only; omega, by have := hc.2; dsimp only; omega⟩
    have kz : ∀ j ∈ kidL zs n i, leP (natL zs n j) ((natL L (n + 1) ∘ sh e) j) := fun j hj => by
      obtain ⟨_, h2, h3⟩ := LZ.kid_in hj
      exact ih (n - j) (by omega) j rfl h3
    unfold contL knd
    rw [hs i 1 hi (by omega) (by omega), hs i 2 hi (by omega) (by omega), hs i 3 hi (by omega) (by omega), hs i 5 hi (by omega) (by omega)]
    by_cases hia : i = a
    · subst hia
      have e1 : (kidL zs n i).map (natL L (n + 1)) = (kidL zs n i).map (natL L (n + 1) ∘ sh e) := List.map_congr_left fun j hj => by
        have h3 : j < e := by
          obtain ⟨k1, k2⟩ := kid_mem.1 hj
          have h4 : anc zs i j = true := by
            obtain ⟨_, k3⟩ := LZ.not_kid k1 k2
            rw [anc_par k2 k3 (by omega)]; exact anc_self zs i
          have := (LZ.in_iff hi k1).1 h4
          omega
        show _ = natL L (n + 1) (sh e j)
        rw [sh_low h3]
      rw [sh_low ha, h.kids LZ LW he, List.map_append, e1]
      have hb := nat_bd hw (show e < n + 1 by omega)
      exact leP.trans (cont_mono _ kz) (cont_snoc g0 _ _ hb.1 hb.2.2.1)
    · rw [h.kids_else LZ hia, List.map_map]
      exact cont_mono _ kz
end
end Go.Proofs.Ytobnjagmakhgpaa
