/- Plain facts on heaps of tasks: what is sooner, what going up and going down leave, and that what is in a heap stays. No condition. -/
import Derived.Test.YtpkombjmbpgdnaaTaskV
namespace Go.Proofs.Ytpkombjmbpgdnaa
open Go.RowKit

/-- A task: its number, its rank, its age. -/
abbrev Tk := Int × Int × Int
def key (t : Tk) : Int := t.2.1 - 4 * t.2.2
def ltK (a b : Tk) : Prop := key a < key b ∨ (key a = key b ∧ a.1 < b.1)
def leK (a b : Tk) : Prop := key a < key b ∨ (key a = key b ∧ a.1 ≤ b.1)
instance (a b : Tk) : Decidable (ltK a b) := by unfold ltK; infer_instance
def ltB (a b : Tk) : Bool := decide (ltK a b)
theorem leK_not {a b : Tk} : leK a b ↔ ¬ ltK b a := by unfold leK ltK; omega
theorem leK_lt {a b : Tk} (h : ltK a b) : leK a b := by unfold ltK at h; unfold leK; omega
theorem leK_refl (a : Tk) : leK a a := by unfold leK; omega
theorem leK_trans {a b c : Tk} (h : leK a b) (k : leK b c) : leK a c := by unfold leK at *; omega
theorem leK_no {a b : Tk} (h : ltB a b = false) : leK b a := by unfold ltB at h; have := of_decide_eq_false h; exact leK_not.2 this
theorem ltK_yes {a b : Tk} (h : ltB a b = true) : ltK a b := by unfold ltB at h; exact of_decide_eq_true h
/-- The place of the one above. -/
def pa (k : Nat) : Nat := (k - 1) / 2
theorem pa_lt {k : Nat} (h : 0 < k) : pa k < k := by unfold pa; omega
theorem pa_kid {c j : Nat} (h : 0 < c) : pa c = j ↔ c = 2 * j + 1 ∨ c = 2 * j + 2 := by unfold pa; omega
def swp (f : Nat → Tk) (i j k : Nat) : Tk := if k = i then f j else if k = j then f i else f k
section
variable {f g : Nat → Tk} {i j k n s c : Nat} {t : Tk}
theorem swp_l : swp f i j i = f j := if_pos rfl
theorem swp_r : swp f i j j = f i := by unfold swp; split; (next h => rw [h]); rw [if_pos rfl]
theorem swp_o (h1 : k ≠ i) (h2 : k ≠ j) : swp f i j k = f k := by unfold swp; rw [if_neg h1, if_neg h2]
/-- From s on, nobody is sooner than the one above. -/
def HeapF (f : Nat → Tk) (n s : Nat) : Prop := ∀ k, 0 < k → k < n → s ≤ pa k → leK (f (pa k)) (f k)
def UpInv (f : Nat → Tk) (n j : Nat) : Prop := (∀ k, 0 < k → k < n → k ≠ j → leK (f (pa k)) (f k)) ∧ (0 < j → ∀ c, 0 < c → c < n → pa c = j → leK (f (pa j)) (f c))
def DownInv (f : Nat → Tk) (n s i : Nat) : Prop := (∀ k, 0 < k → k < n → s ≤ pa k → pa k ≠ i → leK (f (pa k)) (f k)) ∧ (i = s ∨ (0 < i ∧ s ≤ pa i ∧ ∀ c, 0 < c → c < n → pa c = i → leK (f (pa i)) (f c))) ∧ s ≤ i
theorem up_done (h : UpInv f n j) (h2 : j = 0 ∨ leK (f (pa j)) (f j)) : HeapF f n 0 := fun k h0 hk _ => by
  by_cases e : k = j
  · subst e
    rcases h2 with h2 | h2
    · omega
    · exact h2
  · exact h.1 k h0 hk e
theorem up_start (h : HeapF f n 0) (hg : ∀ k, k < n → g k = f k) : UpInv g (n + 1) n := by
  refine ⟨fun k h0 hk hne => ?_, fun h0 c h1 h2 h3 => ?_⟩
  · rw [hg k (by omega), hg (pa k) (by have := pa_lt h0; omega)]
    exact h k h0 (by omega) (Nat.zero_le _)
  · rcases (pa_kid h1).1 h3 with h4 | h4 <;> omega
theorem up_step (h : UpInv f n j) (h0 : 0 < j) (hj : j < n) (hl : ltK (f j) (f (pa j))) : UpInv (swp f (pa j) j) n (pa j) := by
  have hp := pa_lt h0
  have key2 : ∀ k, 0 < k → k < n → k ≠ pa j → leK (swp f (pa j) j (pa k)) (swp f (pa j) j k) := fun k k0 kn hne => by
    have hpk := pa_lt k0
    by_cases e1 : k = j
    · subst e1
      rw [swp_l, swp_r]
      exact leK_lt hl
    · rw [swp_o hne e1]
      by_cases e2 : pa k = pa j
      · rw [e2, swp_l]
        have := h.1 k k0 kn e1
        rw [e2] at this
        exact leK_trans (leK_lt hl) this
      · by_cases e3 : pa k = j
        · rw [e3, swp_r]
          exact h.2 h0 k k0 kn e3
        · rw [swp_o e2 e3]
          exact h.1 k k0 kn e1
  refine ⟨key2, fun hp0 c c0 cn hc => ?_⟩
  have hpp := pa_lt hp0
  have e : swp f (pa j) j (pa (pa j)) = f (pa (pa j)) := swp_o (by omega) (by omega)
  rw [e]
  have h1 := h.1 (pa j) hp0 (by omega) (by omega)
  by_cases e1 : c = j
  · subst e1
    rw [swp_r]
    exact h1
  · have hcp := pa_lt c0
    rw [swp_o (by omega) e1]
    have h2 := h.1 c c0 cn e1
    rw [hc] at h2
    exact leK_trans h1 h2
theorem down_start (h : HeapF f n (s + 1)) : DownInv f n s s := ⟨fun k h0 hk hs hne => h k h0 hk (by omega), .inl rfl, Nat.le_refl _⟩
theorem down_none (h : DownInv f n s i) (hn : n ≤ 2 * i + 1) : HeapF f n s := fun k h0 hk hs => by
  by_cases e : pa k = i
  · rcases (pa_kid h0).1 e with h4 | h4 <;> omega
  · exact h.1 k h0 hk hs e
theorem down_done (h : DownInv f n s i) (hj : leK (f i) (f j)) (hm : ∀ c, 0 < c → c < n → pa c = i → leK (f j) (f c)) : HeapF f n s := fun k h0 hk hs => by
  by_cases e : pa k = i
  · rw [e]
    exact leK_trans hj (hm k h0 hk e)
  · exact h.1 k h0 hk hs e
theorem down_step (h : DownInv f n s i) (h0 : 0 < j) (hj : j < n) (hp : pa j = i) (hm : ∀ c, 0 < c → c < n → pa c = i → leK (f j) (f c)) (hl : ltK (f j) (f i)) : DownInv (swp f i j) n s j := by
  have hij := pa_lt h0
  rw [hp] at hij
  refine ⟨fun k k0 kn ks hne => ?_, .inr ⟨h0, by rw [hp]; exact h.2.2, fun c c0 cn hc => ?_⟩, by have := h.2.2; omega⟩
  · have hpk := pa_lt k0
    by_cases e2 : pa k = i
    · rw [e2, swp_l]
      by_cases e1 : k = j
      · subst e1; rw [swp_r]; exact leK_lt hl
      · rw [swp_o (by omega) e1]
        exact hm k k0 kn e2
    · by_cases e1 : k = i
      · subst e1
        rw [swp_l, swp_o (by omega) hne]
        rcases h.2.1 with e3 | ⟨_, _, h5⟩
        · omega
        · exact h5 j h0 hj hp
      · have e3 : k ≠ j := fun e => e2 (by rw [e]; exact hp)
        rw [swp_o e1 e3, swp_o e2 hne]
        exact h.1 k k0 kn ks e2
  · have hcp := pa_lt c0
    rw [hp, swp_l, swp_o (by omega) (by omega)]
    have h6 := h.2.2
    have := h.1 c c0 cn (by rw [hc]; omega) (by rw [hc]; omega)
    rw [hc] at this
    exact this
theorem heap_min (h : HeapF f n 0) : ∀ k, k < n → leK (f 0) (f k) := fun k => by
  induction k using Nat.strongRecOn with
  | ind k ih =>
    intro hk
    rcases Nat.eq_zero_or_pos k with h0 | h0
    · subst h0; exact leK_refl _
    · have := pa_lt h0
      exact leK_trans (ih (pa k) this (by omega)) (h k h0 hk (Nat.zero_le _))
theorem heap_all (h : n ≤ 1) : HeapF f n s := fun k h0 hk _ => by omega
theorem heap_half (h : n ≤ 2 * s + 1) : HeapF f n s := fun k h0 hk hs => by have := (pa_kid (j := pa k) h0).1 rfl; omega
/-! What is in it. -/
def Mem (f : Nat → Tk) (n : Nat) (t : Tk) : Prop := ∃ k, k < n ∧ f k = t
def Inj (f : Nat → Tk) (n : Nat) : Prop := ∀ i j, i < n → j < n → (f i).1 = (f j).1 → i = j
def ix (i j k : Nat) : Nat := if k = i then j else if k = j then i else k
theorem swp_ix : swp f i j k = f (ix i j k) := by unfold swp ix; split; rfl; split <;> rfl
theorem ix_lt (hi : i < n) (hj : j < n) (hk : k < n) : ix i j k < n := by unfold ix; split; exact hj; split; exact hi; exact hk
theorem ix_ix (i j k : Nat) : ix i j (ix i j k) = k := by
  unfold ix
  by_cases h1 : k = i
  · subst h1
    by_cases h2 : j = k
    · simp [h2]
    · simp [h2]
  · by_cases h2 : k = j
    · subst h2; simp [h1]
    · simp [h1, h2]
theorem swp_mem (hi : i < n) (hj : j < n) : Mem (swp f i j) n t ↔ Mem f n t := by
  constructor
  · rintro ⟨k, hk, e⟩
    rw [swp_ix] at e
    exact ⟨ix i j k, ix_lt hi hj hk, e⟩
  · rintro ⟨k, hk, e⟩
    exact ⟨ix i j k, ix_lt hi hj hk, by rw [swp_ix, ix_ix]; exact e⟩
theorem swp_inj (hi : i < n) (hj : j < n) (h : Inj f n) : Inj (swp f i j) n := fun a b ha hb e => by
  rw [swp_ix, swp_ix] at e
  have h1 := h _ _ (ix_lt hi hj ha) (ix_lt hi hj hb) e
  have h2 : ix i j (ix i j a) = ix i j (ix i j b) := by rw [h1]
  rw [ix_ix, ix_ix] at h2
  exact h2
/-- A list of tasks by ascending numbers. -/
def Asc (l : List Tk) : Prop := l.Pairwise fun a b => a.1 < b.1
theorem asc_eq : ∀ {l l' : List Tk}, Asc l → Asc l' → (∀ t, t ∈ l ↔ t ∈ l') → l = l'
  | [], [], _, _, _ => rfl
  | [], b :: l', _, _, h => absurd ((h b).2 List.mem_cons_self) List.not_mem_nil
  | a :: l, [], _, _, h => absurd ((h a).1 List.mem_cons_self) List.not_mem_nil
  | a :: l, b :: l', h1, h2, h => by
    obtain ⟨a1, a2⟩ := List.pairwise_cons.1 h1
    obtain ⟨b1, b2⟩ := List.pairwise_cons.1 h2
    have e : a = b := by
      rcases List.mem_cons.1 ((h a).1 List.mem_cons_self) with e | e
      · exact e
      · rcases List.mem_cons.1 ((h b).2 List.mem_cons_self) with e' | e'
        · exact e'.symm
        · have := a1 b e'; have := b1 a e; omega
    subst e
    rw [asc_eq a2 b2 fun t => ?_]
    constructor
    · intro ht
      rcases List.mem_cons.1 ((h t).1 (List.mem_cons_of_mem _ ht)) with e | e
      · subst e; have := a1 _ ht; omega
      · exact e
    · intro ht
      rcases List.mem_cons.1 ((h t).2 (List.mem_cons_of_mem _ ht)) with e | e
      · subst e; have := b1 _ ht; omega
      · exact e
/-- The n tasks f are those of the list l, whose numbers ascend. -/
structure Same (f : Nat → Tk) (n : Nat) (l : List Tk) : Prop where
  len : l.length = n
  asc : Asc l
  inj : Inj f n
  mem : ∀ t, t ∈ l ↔ Mem f n t
theorem Same.swp {l : List Tk} (h : Same f n l) (hi : i < n) (hj : j < n) : Same (Go.Proofs.Ytpkombjmbpgdnaa.swp f i j) n l := ⟨h.len, h.asc, swp_inj hi hj h.inj, fun t => (h.mem t).trans (swp_mem hi hj).symm⟩
end
end Go.Proofs.Ytpkombjmbpgdnaa
