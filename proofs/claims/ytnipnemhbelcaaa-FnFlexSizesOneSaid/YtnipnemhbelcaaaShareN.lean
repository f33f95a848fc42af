/- Plain facts on shares: the rests that are handed out one by one to the first greatest go to the first numbers of a list in falling order, equals in front first. No condition. -/
import Derived.Test.YtnipnemhbelcaaaShareM
namespace Go.Proofs.Ytnipnemhbelcaaa

theorem amaxTo_eq (s : List Int) (k : Nat) (hb : ∀ i, i < k → s.getD i 0 < s.getD k 0) (m : Nat) (hkm : k ≤ m) (hl : ∀ i, i ≤ m → s.getD i 0 ≤ s.getD k 0) : amaxTo s m = k := by
  induction m with
  | zero =>
    have : k = 0 := by omega
    subst this
    rfl
  | succ m ih =>
    unfold amaxTo
    by_cases hk : k = m + 1
    · subst hk
      have h := hb (amaxTo s m) (by have := amaxTo_le s m; omega)
      rw [if_pos h]
    · have e := ih (by omega) fun i hi => hl i (by omega)
      rw [e]
      have h := hl (m + 1) (by omega)
      rw [if_neg (by omega)]
theorem amax_eq (s : List Int) (k : Nat) (hk : k < s.length) (hb : ∀ i, i < k → s.getD i 0 < s.getD k 0) (hl : ∀ i, i < s.length → s.getD i 0 ≤ s.getD k 0) : amax s = k :=
  amaxTo_eq s k hb (s.length - 1) (by omega) fun i hi => hl i (by omega)
/-- One more at each of these places. -/
def handL (l : List Nat) (o : List Int) : List Int := l.foldl (fun s i => s.set i (s.getD i 0 + 1)) o
/-- Nothing is left at these places. -/
def goneL (l : List Nat) (r : List Int) : List Int := l.foldl (fun s i => s.set i (-1)) r
theorem goneL_len (l : List Nat) (r : List Int) : (goneL l r).length = r.length := by
  unfold goneL
  induction l generalizing r with
  | nil => rfl
  | cons a l ih => simp only [List.foldl_cons]; rw [ih]; simp
theorem goneL_at (l : List Nat) (r : List Int) (i : Nat) (hi : i < r.length) : (goneL l r).getD i 0 = if i ∈ l then -1 else r.getD i 0 := by
  unfold goneL
  induction l generalizing r with
  | nil => simp
  | cons a l ih =>
    simp only [List.foldl_cons]
    rw [ih _ (by simpa using hi), getD_set _ _ _ _ hi]
    by_cases h1 : i ∈ l
    · rw [if_pos h1, if_pos (List.mem_cons_of_mem _ h1)]
    · rw [if_neg h1]
      by_cases h2 : i = a
      · subst h2
        simp
      · have h3 : ¬ (i ∈ a :: l) := by
          intro h
          rcases List.mem_cons.1 h with h | h
          · exact h2 h
          · exact h1 h
        rw [if_neg h3]
        first
          | rw [if_neg h2]
          | rw [if_neg (fun h => h2 h.symm)]
/-- The place a stands in front of the place b. -/
def Front (r : List Int) (a b : Nat) : Prop := r.getD b 0 < r.getD a 0 ∨ r.getD b 0 = r.getD a 0 ∧ a < b
theorem spin_order (σ : List Nat) (o r : List Int) (hp : σ.Pairwise (Front r)) (hall : ∀ i, i < r.length → i ∈ σ) (hin : ∀ i ∈ σ, i < r.length) (hr : ∀ i, i < r.length → 0 ≤ r.getD i 0)
    (j : Nat) (hj : j ≤ σ.length) : spinTo j (o, r) = (handL (σ.take j) o, goneL (σ.take j) r) := by
  induction j with
  | zero => simp [spinTo, handL, goneL]
  | succ j ih =>
    have hj' : j < σ.length := by omega
    unfold spinTo
    rw [ih (by omega)]
    have hk : σ[j] < r.length := hin _ (List.getElem_mem hj')
    have hk0 := hr _ hk
    have hsplit : σ = σ.take j ++ σ[j] :: σ.drop (j + 1) := by
      rw [← List.drop_eq_getElem_cons hj', List.take_append_drop]
    have hpp := hp
    rw [hsplit, List.pairwise_append] at hpp
    obtain ⟨_, hp2, hp3⟩ := hpp
    rw [List.pairwise_cons] at hp2
    have hnot : ¬ (σ[j] ∈ σ.take j) := by
      intro h
      rcases hp3 _ h _ (List.mem_cons_self ..) with h | ⟨_, h⟩
      · exact absurd h (Int.lt_irrefl _)
      · exact absurd h (Nat.lt_irrefl _)
    have hv : (goneL (σ.take j) r).getD σ[j] 0 = r.getD σ[j] 0 := by rw [goneL_at _ _ _ hk, if_neg hnot]
    have hcase : ∀ i, i < r.length → (goneL (σ.take j) r).getD i 0 ≤ r.getD σ[j] 0 ∧ (i < σ[j] → (goneL (σ.take j) r).getD i 0 < r.getD σ[j] 0) := by
      intro i hi
      rw [goneL_at _ _ _ hi]
      by_cases ht : i ∈ σ.take j
      · rw [if_pos ht]
        exact ⟨by omega, fun _ => by omega⟩
      · rw [if_neg ht]
        have hm := hall i hi
        rw [hsplit] at hm
        rcases List.mem_append.1 hm with h | h
        · exact absurd h ht
        · rcases List.mem_cons.1 h with h | h
          · rw [h]
            exact ⟨Int.le_refl _, fun h => absurd h (Nat.lt_irrefl _)⟩
          · rcases hp2.1 i h with h | ⟨h, h'⟩
            · exact ⟨by omega, fun _ => h⟩
            · exact ⟨by omega, fun h2 => by omega⟩
    have ha : amax (goneL (σ.take j) r) = σ[j] :=
      amax_eq _ _ (by rw [goneL_len]; exact hk) (fun i hi => by rw [hv]; exact (hcase i (by omega)).2 hi) fun i hi => by rw [hv]; exact (hcase i (by rw [goneL_len] at hi; exact hi)).1
    unfold spin1
    simp only []
    rw [ha]
    have ht : σ.take (j + 1) = σ.take j ++ [σ[j]] := by simp
    rw [ht]
    unfold handL goneL
    simp only [List.foldl_append, List.foldl_cons, List.foldl_nil]
end Go.Proofs.Ytnipnemhbelcaaa
