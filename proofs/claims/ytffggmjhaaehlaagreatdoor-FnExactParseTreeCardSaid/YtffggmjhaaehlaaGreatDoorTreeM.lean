/- Plain facts on trees of boxes that are numbered from outside to inside: what is around a box, how deep it is, which boxes are directly in it, and where the boxes in it end. No condition. -/
import Derived.Test.YtffggmjhaaehlaaGreatDoorSts
namespace Go.Proofs.YtffggmjhaaehlaaGreatDoor
open Go.RowKit

/-- Parent and kind of a box. -/
def par (zs : List Int) (i : Nat) : Int := zs.getD (i * 9) 0
def knd (zs : List Int) (i : Nat) : Int := zs.getD (i * 9 + 1) 0
/-- The boxes before k that are directly in a box. -/
def kidL (zs : List Int) (k a : Nat) : List Nat := (List.range k).filter fun i => decide (par zs i = (a : Int))
/-- How many boxes are around a box. -/
def dep (zs : List Int) (i : Nat) : Nat := if _h : 0 ≤ par zs i ∧ (par zs i).toNat < i then dep zs (par zs i).toNat + 1 else 0
termination_by i
decreasing_by omega
/-- Is the box a around the box i, or i itself? -/
def anc (zs : List Int) (a i : Nat) : Bool := if i = a then true else if _h : 0 ≤ par zs i ∧ (par zs i).toNat < i then anc zs a (par zs i).toNat else false
termination_by i
decreasing_by omega
/-- Where the boxes from i on that are in a end. -/
def runE (zs : List Int) (k a i : Nat) : Nat := if _h : i < k ∧ anc zs a i = true then runE zs k a (i + 1) else i
termination_by k - i
decreasing_by omega
def en (zs : List Int) (k a : Nat) : Nat := runE zs k a a
section
variable {zs : List Int} {a b c i j k p : Nat}
theorem anc_self (zs : List Int) (a : Nat) : anc zs a a = true := by unfold anc; rw [if_pos rfl]
theorem anc_par (h : par zs i = (p : Int)) (hp : p < i) (hn : i ≠ a) : anc zs a i = anc zs a p := by
  rw [anc, if_neg hn, dif_pos ⟨by omega, by omega⟩, h]
  simp
theorem anc_top (h : ¬ (0 ≤ par zs i ∧ (par zs i).toNat < i)) (hn : i ≠ a) : anc zs a i = false := by
  rw [anc, if_neg hn, dif_neg h]
theorem dep_par (h : par zs i = (p : Int)) (hp : p < i) : dep zs i = dep zs p + 1 := by
  rw [dep, dif_pos ⟨by omega, by omega⟩, h]
  simp
theorem dep_top (h : par zs i < 0) : dep zs i = 0 := by rw [dep, dif_neg (by omega)]
theorem par_cases (zs : List Int) (i : Nat) : (∃ p : Nat, par zs i = (p : Int) ∧ p < i) ∨ ¬ (0 ≤ par zs i ∧ (par zs i).toNat < i) := by
  by_cases h : 0 ≤ par zs i ∧ (par zs i).toNat < i
  · exact .inl ⟨(par zs i).toNat, by omega, h.2⟩
  · exact .inr h
theorem anc_le (h : anc zs a i = true) : a ≤ i := by
  induction i using Nat.strongRecOn with
  | ind i ih =>
    by_cases hn : i = a
    · omega
    · rcases par_cases zs i with ⟨p, e, hp⟩ | h2
      · rw [anc_par e hp hn] at h
        have := ih p hp h
        omega
      · rw [anc_top h2 hn] at h; cases h
theorem anc_trans (h1 : anc zs a b = true) (h2 : anc zs b c = true) : anc zs a c = true := by
  induction c using Nat.strongRecOn with
  | ind c ih =>
    by_cases hb : c = b
    · rw [hb]; exact h1
    · rcases par_cases zs c with ⟨p, e, hp⟩ | h3
      · rw [anc_par e hp hb] at h2
        have h4 := ih p hp h2
        have h5 := anc_le h4
        rw [anc_par e hp (by omega)]
        exact h4
      · rw [anc_top h3 hb] at h2; cases h2
/-- Of two boxes around a box, the outer one is around the inner one. -/
theorem anc_chain (h1 : anc zs a i = true) (h2 : anc zs b i = true) (hab : a ≤ b) : anc zs a b = true := by
  induction i using Nat.strongRecOn with
  | ind i ih =>
    by_cases hb : i = b
    · rw [← hb]; exact h1
    · have hbi := anc_le h2
      rcases par_cases zs i with ⟨p, e, hp⟩ | h3
      · rw [anc_par e hp hb] at h2
        rw [anc_par e hp (by omega)] at h1
        exact ih p hp h1 h2
      · rw [anc_top h3 hb] at h2; cases h2
theorem anc_dep (h1 : anc zs a i = true) (hn : i ≠ a) : dep zs a < dep zs i := by
  induction i using Nat.strongRecOn with
  | ind i ih =>
    rcases par_cases zs i with ⟨p, e, hp⟩ | h3
    · rw [anc_par e hp hn] at h1
      rw [dep_par e hp]
      by_cases hpa : p = a
      · rw [hpa]; omega
      · have := ih p hp h1 hpa; omega
    · rw [anc_top h3 hn] at h1; cases h1
theorem kid_mem : i ∈ kidL zs k a ↔ i < k ∧ par zs i = (a : Int) := by simp [kidL]
theorem kid_sorted (zs : List Int) (k a : Nat) : (kidL zs k a).Pairwise (· < ·) := by
  unfold kidL
  exact List.Pairwise.filter _ List.pairwise_lt_range
theorem kid_succ (zs : List Int) (k a : Nat) : kidL zs (k + 1) a = if par zs k = (a : Int) then kidL zs k a ++ [k] else kidL zs k a := by
  unfold kidL
  rw [List.range_succ, List.filter_append]
  by_cases h : par zs k = (a : Int)
  · simp [h]
  · simp [h]
theorem kid_mono (h : i ≤ k) : (kidL zs i a).length ≤ (kidL zs k a).length := by
  induction k with
  | zero => obtain rfl : i = 0 := by omega
            exact Nat.le_refl _
  | succ k ih =>
    rcases Nat.lt_or_ge k i with h1 | h1
    · obtain rfl : i = k + 1 := by omega
      exact Nat.le_refl _
    · rw [kid_succ]
      have := ih h1
      split
      · rw [List.length_append]; omega
      · exact this
/-- The first k boxes are linked: each has around it the box before it, or one around that. -/
structure Link (zs : List Int) (k : Nat) : Prop where
  root : 0 < k → par zs 0 = -1
  up : ∀ i, 0 < i → i < k → ∃ p : Nat, par zs i = (p : Int) ∧ p < i ∧ anc zs p (i - 1) = true
theorem Link.less (h : Link zs k) (hi : i ≤ k) : Link zs i := ⟨fun h0 => h.root (by omega), fun j h1 h2 => h.up j h1 (by omega)⟩
theorem Link.not_kid (h : Link zs k) (h1 : i < k) (h2 : par zs i = (a : Int)) : 0 < i ∧ a < i := by
  rcases Nat.eq_zero_or_pos i with h0 | h0
  · subst h0; have := h.root (by omega); omega
  · obtain ⟨p, e, hp, _⟩ := h.up i h0 h1
    have : p = a := by omega
    exact ⟨h0, by omega⟩
theorem Link.down (h : Link zs k) (hi : i < k) (h1 : anc zs a i = true) (hn : a < i) : anc zs a (i - 1) = true := by
  obtain ⟨p, e, hp, hq⟩ := h.up i (by omega) hi
  rw [anc_par e hp (by omega)] at h1
  exact anc_trans h1 hq
theorem Link.between (h : Link zs k) (hi : i < k) (h1 : anc zs a i = true) (h2 : a ≤ j) (h3 : j ≤ i) : anc zs a j = true := by
  induction i with
  | zero => obtain rfl : j = 0 := by omega
            exact h1
  | succ i ih =>
    rcases Nat.lt_or_ge i j with h4 | h4
    · obtain rfl : j = i + 1 := by omega
      exact h1
    · exact ih (by omega) (by have := h.down hi h1 (by omega); simpa using this) h4
theorem Link.root_anc (h : Link zs k) (hi : i < k) : anc zs 0 i = true := by
  induction i using Nat.strongRecOn with
  | ind i ih =>
    rcases Nat.eq_zero_or_pos i with h0 | h0
    · subst h0; exact anc_self _ _
    · obtain ⟨p, e, hp, _⟩ := h.up i h0 hi
      rw [anc_par e hp (by omega)]
      exact ih p hp (by omega)
theorem runE_le (zs : List Int) (k a i : Nat) (hi : i ≤ k) : i ≤ runE zs k a i ∧ runE zs k a i ≤ k := by
  generalize hm : k - i = m
  induction m using Nat.strongRecOn generalizing i with
  | ind m ih =>
    rw [runE]
    split
    · next h => have := ih (k - (i + 1)) (by omega) (i + 1) (by omega) rfl; omega
    · omega
theorem runE_all (hj : i ≤ j) (hl : j < runE zs k a i) : anc zs a j = true := by
  generalize hm : k - i = m
  induction m using Nat.strongRecOn generalizing i with
  | ind m ih =>
    rw [runE] at hl
    split at hl
    · next h =>
      rcases Nat.lt_or_ge i j with h1 | h1
      · exact ih (k - (i + 1)) (by omega) (by omega) hl rfl
      · obtain rfl : i = j := by omega
        exact h.2
    · omega
theorem runE_end (h : runE zs k a i < k) : anc zs a (runE zs k a i) = false := by
  generalize hm : k - i = m
  induction m using Nat.strongRecOn generalizing i with
  | ind m ih =>
    rw [runE] at h ⊢
    split at h
    · next h1 => rw [dif_pos h1]; exact ih (k - (i + 1)) (by omega) h rfl
    · next h1 =>
      rw [dif_neg h1]
      cases hv : anc zs a i
      · rfl
      · exact absurd ⟨h, hv⟩ h1
theorem runE_go (h : i < k) (h1 : anc zs a i = true) : runE zs k a i = runE zs k a (i + 1) := by rw [runE, dif_pos ⟨h, h1⟩]
theorem runE_stop (h : ¬ (i < k ∧ anc zs a i = true)) : runE zs k a i = i := by rw [runE, dif_neg h]
theorem runE_is {e : Nat} (h1 : i ≤ e) (h2 : e ≤ k) (h3 : ∀ j, i ≤ j → j < e → anc zs a j = true) (h4 : e < k → anc zs a e = false) : runE zs k a i = e := by
  have h5 := runE_le zs k a i (by omega)
  rcases Nat.lt_trichotomy (runE zs k a i) e with h | h | h
  · have := runE_end (zs := zs) (a := a) (i := i) (k := k) (by omega)
    rw [h3 _ h5.1 h] at this; cases this
  · exact h
  · have := runE_all (zs := zs) (a := a) (i := i) (k := k) h1 h
    rw [h4 (by omega)] at this; cases this
theorem en_bd (ha : a < k) : a < en zs k a ∧ en zs k a ≤ k := by
  unfold en
  rw [runE_go ha (anc_self _ _)]
  have := runE_le zs k a (a + 1) (by omega)
  omega
/-- The boxes in a box are those from it to its end. -/
theorem Link.in_iff (h : Link zs k) (ha : a < k) (hi : i < k) : anc zs a i = true ↔ a ≤ i ∧ i < en zs k a := by
  constructor
  · intro h1
    refine ⟨anc_le h1, ?_⟩
    rcases Nat.lt_or_ge i (en zs k a) with h2 | h2
    · exact h2
    · have h3 := en_bd (zs := zs) ha
      have h4 := runE_end (zs := zs) (a := a) (i := a) (k := k) (by unfold en at h2; omega)
      have h5 := h.between hi h1 (j := en zs k a) (by omega) h2
      unfold en at h5
      rw [h4] at h5; cases h5
  · exact fun ⟨h1, h2⟩ => runE_all h1 h2
/-- A box without boxes ends behind itself; else its first box follows it. -/
theorem Link.no_kid (h : Link zs k) (ha : a < k) (hk : kidL zs k a = []) : en zs k a = a + 1 := by
  have h1 := en_bd (zs := zs) ha
  rcases Nat.lt_or_ge (a + 1) (en zs k a) with h2 | h2
  · have h3 := (h.in_iff ha (by omega)).2 ⟨by omega, h2⟩
    obtain ⟨p, e, hp, _⟩ := h.up (a + 1) (by omega) (by omega)
    rw [anc_par e hp (by omega)] at h3
    have h4 := anc_le h3
    have : a + 1 ∈ kidL zs k a := kid_mem.2 ⟨by omega, by rw [e]; omega⟩
    rw [hk] at this; cases this
  · omega
theorem Link.kid_in (h : Link zs k) (hj : j ∈ kidL zs k a) : anc zs a j = true ∧ a < j ∧ j < k := by
  obtain ⟨h1, h2⟩ := kid_mem.1 hj
  obtain ⟨_, h3⟩ := h.not_kid h1 h2
  refine ⟨?_, h3, h1⟩
  rw [anc_par h2 h3 (by omega)]
  exact anc_self _ _
theorem Link.first_kid (h : Link zs k) (ha : a < k) {rest : List Nat} (hk : kidL zs k a = j :: rest) : j = a + 1 := by
  obtain ⟨h1, h2, h3⟩ := h.kid_in (j := j) (by rw [hk]; exact List.mem_cons_self)
  have h4 := h.between h3 h1 (j := a + 1) (by omega) (by omega)
  obtain ⟨p, e, hp, _⟩ := h.up (a + 1) (by omega) (by omega)
  rw [anc_par e hp (by omega)] at h4
  have h5 := anc_le h4
  have hm : a + 1 ∈ kidL zs k a := kid_mem.2 ⟨by omega, by rw [e]; omega⟩
  have hs := kid_sorted zs k a
  rw [hk] at hm hs
  rcases List.mem_cons.1 hm with h6 | h6
  · exact h6.symm
  · have := (List.pairwise_cons.1 hs).1 _ h6
    omega
/-- The end of a box's end is that of the box around it, or the next box beside it begins there. -/
theorem Link.next_kid (h : Link zs k) (ha : a < k) {done rest : List Nat} (hk : kidL zs k a = done ++ j :: rest) : en zs k j = rest.head?.getD (en zs k a) := by
  obtain ⟨h1, h2, h3⟩ := h.kid_in (j := j) (by rw [hk]; simp)
  have hpj := (kid_mem.1 (show j ∈ kidL zs k a by rw [hk]; simp)).2
  have e1 := en_bd (zs := zs) h3
  have e2 := en_bd (zs := zs) ha
  -- all up to j's end are in a
  have hall : ∀ i, a ≤ i → i < en zs k j → anc zs a i = true := fun i hi1 hi2 => by
    rcases Nat.lt_or_ge i j with h4 | h4
    · exact h.between h3 h1 hi1 (by omega)
    · exact anc_trans h1 ((h.in_iff h3 (by omega)).2 ⟨h4, hi2⟩)
  have hs := kid_sorted zs k a
  rw [hk] at hs
  obtain ⟨_, hs2, hs3⟩ := List.pairwise_append.1 hs
  obtain ⟨hs4, hs5⟩ := List.pairwise_cons.1 hs2
  -- no box directly in a lies between j and its end
  have hno : ∀ i, i ∈ rest → en zs k j ≤ i := fun i hi => by
    rcases Nat.lt_or_ge i (en zs k j) with h4 | h4
    · have h5 := hs4 i hi
      have h6 := kid_mem.1 (show i ∈ kidL zs k a by rw [hk]; simp [hi])
      have h7 := (h.in_iff h3 h6.1).2 ⟨by omega, h4⟩
      rw [anc_par h6.2 (by omega) (by omega)] at h7
      have := anc_le h7
      omega
    · exact h4
  by_cases hend : en zs k j < k ∧ anc zs a (en zs k j) = true
  · -- the end is directly in a
    obtain ⟨p, e, hp, hq⟩ := h.up (en zs k j) (by omega) hend.1
    have hje : anc zs j (en zs k j - 1) = true := (h.in_iff h3 (by omega)).2 ⟨by omega, by omega⟩
    have hne : anc zs j (en zs k j) = false := by unfold en; exact runE_end (by have := hend.1; unfold en at this; exact this)
    have hpj2 : p < j := by
      rcases Nat.lt_or_ge p j with h4 | h4
      · exact h4
      · have h5 := anc_chain hje hq h4
        rw [anc_par e hp (by omega), h5] at hne; cases hne
    have h6 := anc_chain hq hje (by omega)
    rw [anc_par hpj (by omega) (by omega)] at h6
    have h7 := hend.2
    rw [anc_par e hp (by omega)] at h7
    have hpa : p = a := by have := anc_le h6; have := anc_le h7; omega
    have hm : en zs k j ∈ kidL zs k a := kid_mem.2 ⟨hend.1, by rw [e, hpa]⟩
    rw [hk] at hm
    have hmr : en zs k j ∈ rest := by
      rcases List.mem_append.1 hm with h8 | h8
      · have := hs3 _ h8 j List.mem_cons_self; omega
      · rcases List.mem_cons.1 h8 with h9 | h9
        · omega
        · exact h9
    cases rest with
    | nil => cases hmr
    | cons r rest =>
      have h8 := hno r List.mem_cons_self
      rcases List.mem_cons.1 hmr with h9 | h9
      · simpa using h9
      · have := (List.pairwise_cons.1 hs5).1 _ h9
        omega
  · have hea : en zs k a = en zs k j := by
      show runE zs k a a = _
      refine runE_is (by omega) e1.2 hall fun h4 => ?_
      cases hv : anc zs a (en zs k j)
      · rfl
      · exact absurd ⟨h4, hv⟩ hend
    cases rest with
    | nil => simpa using hea.symm
    | cons r rest =>
      have h8 := hno r List.mem_cons_self
      have h9 := h.kid_in (j := r) (by rw [hk]; simp)
      have h10 := (h.in_iff ha h9.2.2).1 h9.1
      omega
end
end Go.Proofs.YtffggmjhaaehlaaGreatDoor
