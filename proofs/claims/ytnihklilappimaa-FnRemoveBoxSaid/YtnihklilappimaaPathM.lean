/- Plain facts on the path from the first box of a tree to a box, on the innermost box around two boxes, and on the next leaf. No condition. -/
import Derived.Test.YtnihklilappimaaTreeV
namespace Go.Proofs.Ytnihklilappimaa
open Go.RowKit

theorem gdl {α : Type} {l : List α} {k : Nat} {d : α} (h : k < l.length) : l.getD k d = l[k] := by simp [h]
theorem gdg {α : Type} {l : List α} {k : Nat} {d : α} (h : l.length ≤ k) : l.getD k d = d := by simp [h]
theorem gd_app1 {α : Type} {l m : List α} {k : Nat} {d : α} (h : k < l.length) : (l ++ m).getD k d = l.getD k d := by
  rw [gdl (by rw [List.length_append]; omega), gdl h, List.getElem_append_left h]
theorem gd_app2 {α : Type} {l m : List α} {k : Nat} {d : α} (h : l.length ≤ k) : (l ++ m).getD k d = m.getD (k - l.length) d := by
  rcases Nat.lt_or_ge (k - l.length) m.length with h1 | h1
  · rw [gdl (by rw [List.length_append]; omega), gdl h1, List.getElem_append_right h]
  · rw [gdg (by rw [List.length_append]; omega), gdg h1]
/-- The boxes around a box, from outside to inside, and the box itself. -/
def pathL (zs : List Int) (i : Nat) : List Nat := if _h : 0 ≤ par zs i ∧ (par zs i).toNat < i then pathL zs (par zs i).toNat ++ [i] else [i]
termination_by i
decreasing_by omega
/-- The innermost box around a that is around b. -/
def comL (zs : List Int) (b a : Nat) : Nat := if anc zs a b = true then a else if _h : 0 ≤ par zs a ∧ (par zs a).toNat < a then comL zs b (par zs a).toNat else a
termination_by a
decreasing_by omega
section
variable {zs : List Int} {a b i j k p n x : Nat}
theorem path_par (h : par zs i = (p : Int)) (hp : p < i) : pathL zs i = pathL zs p ++ [i] := by
  rw [pathL, dif_pos ⟨by omega, by omega⟩, h, Int.toNat_natCast]
theorem path_top (h : ¬ (0 ≤ par zs i ∧ (par zs i).toNat < i)) : pathL zs i = [i] := by rw [pathL, dif_neg h]
theorem path_len (zs : List Int) (i : Nat) : (pathL zs i).length = dep zs i + 1 := by
  induction i using Nat.strongRecOn with
  | ind i ih =>
    rcases par_cases zs i with ⟨p, e, hp⟩ | h
    · rw [path_par e hp, dep_par e hp, List.length_append, ih p hp]; rfl
    · rw [path_top h, dep, dif_neg h]; rfl
theorem path_mem : x ∈ pathL zs i ↔ anc zs x i = true := by
  induction i using Nat.strongRecOn with
  | ind i ih =>
    rcases par_cases zs i with ⟨p, e, hp⟩ | h
    · rw [path_par e hp, List.mem_append, ih p hp, List.mem_singleton]
      by_cases hx : i = x
      · subst hx; simp [anc_self]
      · rw [anc_par e hp hx]
        constructor
        · rintro (h | h)
          · exact h
          · exact absurd h.symm hx
        · exact fun h => .inl h
    · rw [path_top h, List.mem_singleton]
      by_cases hx : i = x
      · subst hx; simp [anc_self]
      · rw [anc_top h hx]
        simp; omega
/-- The box at a place of the path: it is around the box, and as deep as its place. -/
theorem path_at {d : Nat} (hd : d < (pathL zs i).length) : anc zs ((pathL zs i).getD d 0) i = true ∧ dep zs ((pathL zs i).getD d 0) = d := by
  refine ⟨path_mem.1 (by rw [gdl hd]; exact List.getElem_mem hd), ?_⟩
  induction i using Nat.strongRecOn with
  | ind i ih =>
    rcases par_cases zs i with ⟨p, e, hp⟩ | h
    · have hl := path_len zs p
      rw [path_par e hp] at hd ⊢
      rw [List.length_append, List.length_singleton] at hd
      rcases Nat.lt_or_ge d (pathL zs p).length with h1 | h1
      · have h2 := ih p hp h1
        rw [gd_app1 h1]
        exact h2
      · obtain rfl : d = (pathL zs p).length := by omega
        rw [gd_app2 h1, Nat.sub_self, hl]
        exact dep_par e hp
    · rw [path_top h] at hd ⊢
      obtain rfl : d = 0 := by simpa using hd
      show dep zs i = 0
      rw [dep, dif_neg h]
/-- Two boxes around a box that are equally deep are one. -/
theorem anc_same (h1 : anc zs a i = true) (h2 : anc zs b i = true) (hd : dep zs a = dep zs b) : a = b := by
  rcases Nat.lt_trichotomy a b with h | h | h
  · have := anc_dep (anc_chain h1 h2 (by omega)) (by omega); omega
  · exact h
  · have := anc_dep (anc_chain h2 h1 (by omega)) (by omega); omega
theorem path_find (h : anc zs x i = true) : dep zs x < (pathL zs i).length ∧ (pathL zs i).getD (dep zs x) 0 = x := by
  have h1 : dep zs x < (pathL zs i).length := by
    rw [path_len]
    by_cases e : i = x
    · subst e; omega
    · have := anc_dep h e; omega
  have h2 := path_at h1
  exact ⟨h1, anc_same h2.1 h h2.2⟩
theorem path_last (zs : List Int) (i : Nat) : (pathL zs i).getD (dep zs i) 0 = i := (path_find (anc_self zs i)).2
theorem dep_root (h : Link zs n) (hn : 0 < n) : dep zs 0 = 0 := dep_top (by have := h.root hn; omega)
theorem path_first (h : Link zs n) (hi : i < n) : (pathL zs i).getD 0 0 = 0 := by
  have h1 := (path_find (h.root_anc hi)).2
  rwa [dep_root h (by omega)] at h1
/-- Each box of the path but the first one is directly in the box ahead of it. -/
theorem path_next (h : Link zs n) (hi : i < n) {d : Nat} (hd : d + 1 < (pathL zs i).length) : par zs ((pathL zs i).getD (d + 1) 0) = ((pathL zs i).getD d 0 : Nat) ∧ (pathL zs i).getD (d + 1) 0 < n := by
  obtain ⟨h1, h2⟩ := path_at hd
  obtain ⟨h3, h4⟩ := path_at (zs := zs) (i := i) (d := d) (by omega)
  generalize (pathL zs i).getD (d + 1) 0 = y at h1 h2 ⊢
  generalize (pathL zs i).getD d 0 = x at h3 h4 ⊢
  have hy := anc_le h1
  have y0 : 0 < y := by
    rcases Nat.eq_zero_or_pos y with e | e
    · subst e; rw [dep_root h (by omega)] at h2; omega
    · exact e
  obtain ⟨p, e, hp, _⟩ := h.up y y0 (by omega)
  have h5 := dep_par e hp
  have h6 : anc zs p y = true := by rw [anc_par e hp (by omega)]; exact anc_self _ _
  rw [e, anc_same (anc_trans h6 h1) h3 (by omega)]
  exact ⟨rfl, by omega⟩
theorem path_bd (hd : j < (pathL zs i).length) : (pathL zs i).getD j 0 ≤ i := anc_le (path_at hd).1
/-- What is around both boxes is around their common box. -/
theorem com_of (h : Link zs n) (ha : a < n) (hb : b < n) : anc zs (comL zs b a) a = true ∧ anc zs (comL zs b a) b = true ∧ ∀ x, anc zs x a = true → anc zs x b = true → anc zs x (comL zs b a) = true := by
  induction a using Nat.strongRecOn with
  | ind a ih =>
    rw [comL]
    by_cases hc : anc zs a b = true
    · rw [if_pos hc]
      exact ⟨anc_self _ _, hc, fun x hx _ => hx⟩
    · rw [if_neg hc]
      have a0 : 0 < a := by
        rcases Nat.eq_zero_or_pos a with e | e
        · subst e; exact absurd (h.root_anc hb) hc
        · exact e
      obtain ⟨p, e, hp, _⟩ := h.up a a0 ha
      rw [dif_pos ⟨by omega, by omega⟩, e, Int.toNat_natCast]
      obtain ⟨h1, h2, h3⟩ := ih p hp (by omega)
      refine ⟨?_, h2, fun x hx hxb => ?_⟩
      · have := anc_le h1
        rw [anc_par e hp (by omega)]; exact h1
      · refine h3 x ?_ hxb
        by_cases hxa : a = x
        · subst hxa; exact absurd hxb hc
        · rwa [anc_par e hp hxa] at hx
theorem com_step (hc : anc zs a b = false) (h : par zs a = (p : Int)) (hp : p < a) : comL zs b a = comL zs b p := by
  rw [comL, if_neg (by rw [hc]; simp), dif_pos ⟨by omega, by omega⟩, h, Int.toNat_natCast]
theorem com_end (hc : anc zs a b = true) : comL zs b a = a := by rw [comL, if_pos hc]
/-- The box at a place of a path is at the same place of the other one just where it is around both boxes. -/
theorem path_both {d : Nat} (hd : d < (pathL zs a).length) : (d < (pathL zs b).length ∧ (pathL zs b).getD d 0 = (pathL zs a).getD d 0) ↔ anc zs ((pathL zs a).getD d 0) b = true := by
  obtain ⟨h1, h2⟩ := path_at hd
  constructor
  · rintro ⟨h3, h4⟩
    rw [← h4]; exact (path_at h3).1
  · intro h3
    have h4 := path_find h3
    rw [h2] at h4
    exact h4
end
/-- The last of the first k numbers of a list that stands at the same place of another. -/
def comK (A B : List Int) : Nat → Int
  | 0 => -1
  | k + 1 => if k < B.length ∧ B.getD k 0 = A.getD k 0 then A.getD k 0 else comK A B k
theorem comK_hit {A B : List Int} {k : Nat} (h : k < B.length ∧ B.getD k 0 = A.getD k 0) : comK A B (k + 1) = A.getD k 0 := by rw [comK, if_pos h]
theorem comK_no {A B : List Int} {k : Nat} (h : ¬ (k < B.length ∧ B.getD k 0 = A.getD k 0)) : comK A B (k + 1) = comK A B k := by rw [comK, if_neg h]
theorem comK_nil (A : List Int) (k : Nat) : comK A [] k = -1 := by
  induction k with
  | zero => rfl
  | succ k ih => rw [comK_no (by simp), ih]
theorem getD_map (l : List Nat) (k : Nat) : (l.map Int.ofNat).getD k 0 = ((l.getD k 0 : Nat) : Int) := by
  rcases Nat.lt_or_ge k l.length with h | h
  · rw [gdl (by simpa using h), gdl h]; simp
  · rw [gdg (by simpa using h), gdg h]; rfl
section
variable {zs : List Int} {a b n : Nat}
theorem comK_path (h : Link zs n) (ha : a < n) (hb : b < n) (k : Nat) (hk : k < (pathL zs a).length) :
    comK ((pathL zs a).map Int.ofNat) ((pathL zs b).map Int.ofNat) (k + 1) = if k ≤ dep zs (comL zs b a) then ((pathL zs a).getD k 0 : Nat) else (comL zs b a : Nat) := by
  obtain ⟨c1, c2, c3⟩ := com_of h ha hb
  have hit : ∀ d, d < (pathL zs a).length → ((d < ((pathL zs b).map Int.ofNat).length ∧ ((pathL zs b).map Int.ofNat).getD d 0 = ((pathL zs a).map Int.ofNat).getD d 0) ↔ d ≤ dep zs (comL zs b a)) := fun d hd => by
    rw [getD_map, getD_map, List.length_map]
    have e : ((((pathL zs b).getD d 0 : Nat) : Int) = (((pathL zs a).getD d 0 : Nat) : Int)) ↔ (pathL zs b).getD d 0 = (pathL zs a).getD d 0 := by omega
    rw [e, path_both hd]
    obtain ⟨h1, h2⟩ := path_at hd
    constructor
    · intro h3
      have h4 := c3 _ h1 h3
      by_cases hx : comL zs b a = (pathL zs a).getD d 0
      · rw [hx]; omega
      · have := anc_dep h4 hx; omega
    · intro h3
      refine anc_trans ?_ c2
      rcases Nat.lt_or_ge (comL zs b a) ((pathL zs a).getD d 0) with h4 | h4
      · have := anc_dep (anc_chain c1 h1 (by omega)) (by omega); omega
      · exact anc_chain h1 c1 h4
  induction k with
  | zero =>
    have := (hit 0 hk).2 (Nat.zero_le _)
    rw [comK_hit this, if_pos (Nat.zero_le _), getD_map]
  | succ k ih =>
    by_cases hc : k + 1 ≤ dep zs (comL zs b a)
    · rw [comK_hit ((hit _ hk).2 hc), if_pos hc, getD_map]
    · rw [comK_no (fun h2 => hc ((hit _ hk).1 h2)), if_neg hc, ih (by omega)]
      split
      · next h2 =>
        have h3 : dep zs (comL zs b a) = k := by omega
        rw [← h3, (path_find c1).2]
      · rfl
theorem comK_all (h : Link zs n) (ha : a < n) (hb : b < n) : comK ((pathL zs a).map Int.ofNat) ((pathL zs b).map Int.ofNat) (pathL zs a).length = (comL zs b a : Nat) := by
  have h1 := path_len zs a
  have c := (com_of h ha hb).1
  have hd : dep zs (comL zs b a) ≤ dep zs a := by
    by_cases e : a = comL zs b a
    · rw [← e]; exact Nat.le_refl _
    · have := anc_dep c e; omega
  rw [h1, comK_path h ha hb (dep zs a) (by omega)]
  split
  · next h2 =>
    have h3 : dep zs (comL zs b a) = dep zs a := by omega
    rw [← h3, (path_find c).2]
  · rfl
end
/-- The first leaf behind a box, from the step t on. -/
def nlf (zs : List Int) (n i t : Nat) : Int := if _h : t < n then (if knd zs ((i + 1 + t) % n) = 0 then (((i + 1 + t) % n : Nat) : Int) else nlf zs n i (t + 1)) else -1
termination_by n - t
decreasing_by omega
theorem nlf_hit {zs : List Int} {n i t : Nat} (h : t < n) (hk : knd zs ((i + 1 + t) % n) = 0) : nlf zs n i t = (((i + 1 + t) % n : Nat) : Int) := by rw [nlf, dif_pos h, if_pos hk]
theorem nlf_go {zs : List Int} {n i t : Nat} (h : t < n) (hk : knd zs ((i + 1 + t) % n) ≠ 0) : nlf zs n i t = nlf zs n i (t + 1) := by rw [nlf, dif_pos h, if_neg hk]
theorem nlf_end {zs : List Int} {n i t : Nat} (h : n ≤ t) : nlf zs n i t = -1 := by rw [nlf, dif_neg (by omega)]
end Go.Proofs.Ytnihklilappimaa
