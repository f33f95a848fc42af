/- Plain facts on the order of taking: it has all numbers; of two tasks of the same age the one of smaller rank comes first. No condition. -/
import Derived.Test.YtpkombjmbpgdnaaHeapO
namespace Go.Proofs.Ytpkombjmbpgdnaa
open Go.RowKit

section
variable {zs : List Int} {n q p i j k a b : Nat}
theorem stk_pre' (zs : List Int) (p : Nat) : ∀ j i, i ≤ j → ∃ l, stk zs p j = stk zs p i ++ l
  | 0, i, h => by obtain rfl : i = 0 := by omega
                  exact ⟨[], by simp⟩
  | j + 1, i, h => by
    by_cases e : i = j + 1
    · subst e; exact ⟨[], by simp⟩
    · obtain ⟨l, hl⟩ := stk_pre' zs p j i (by omega)
      by_cases e2 : j = p
      · subst e2; exact ⟨l, by rw [stk_at]; exact hl⟩
      · exact ⟨l ++ [age1 (tkOf zs j)], by rw [stk_other e2, hl, List.append_assoc]⟩
theorem stk_lies' (hi : i < n) (hne : i ≠ p) : (stk zs p i).length < (stk zs p n).length ∧ tkOf (flL (stk zs p n)) (stk zs p i).length = age1 (tkOf zs i) := by
  obtain ⟨l, hl⟩ := stk_pre' zs p n (i + 1) hi
  rw [stk_other hne, List.append_assoc] at hl
  have h1 : (stk zs p i).length < (stk zs p n).length := by rw [hl]; simp
  refine ⟨h1, ?_⟩
  rw [tkOf_flL h1]
  simp only [hl]
  simp
/-- Who stays was there. -/
theorem stk_was (h : vtk (q + 1) zs = true) (hi : i < q) : ∃ j, j < q + 1 ∧ j ≠ nx zs q ∧ tkOf (flL (stk zs (nx zs q) (q + 1))) i = age1 (tkOf zs j) := by
  have hm : nx zs q < q + 1 := Nat.lt_succ_of_le (nx_le zs q)
  have hl := stk_one (zs := zs) (m := nx zs q) (q + 1) hm
  have hi2 : i < (stk zs (nx zs q) (q + 1)).length := by omega
  have hmem := List.getElem_mem hi2
  rw [tkOf_flL hi2]
  generalize hg : (stk zs (nx zs q) (q + 1))[i] = t at hmem ⊢
  rw [stk_eq h hm (q + 1) (Nat.le_refl _), List.mem_map] at hmem
  obtain ⟨u, hu, rfl⟩ := hmem
  obtain ⟨h1, h2⟩ := List.mem_filter.1 hu
  obtain ⟨j, hj, rfl⟩ := tks_mem.1 h1
  refine ⟨j, hj, fun e => ?_, rfl⟩
  rw [e] at h2
  simp at h2
theorem ids_eq (h : vtk n zs = true) (hi : i < n) (hk : k < n) (e : tid zs i = tid zs k) : i = k := by
  rcases Nat.lt_trichotomy i k with h3 | h3 | h3
  · have := ((vtk_at h).2 k hk).2 i h3; omega
  · exact h3
  · have := ((vtk_at h).2 i hi).2 k h3; omega
theorem age_id (t : Tk) : (age1 t).1 = t.1 := rfl
theorem ord_zero : (ordL (q + 1) zs).getD 0 0 = tid zs (nx zs q) := rfl
theorem ord_succ : (ordL (q + 1) zs).getD (a + 1) 0 = (ordL q (flL (stk zs (nx zs q) (q + 1)))).getD a 0 := rfl
theorem ord_from : ∀ (n : Nat) (zs : List Int), vtk n zs = true → ∀ a, a < n → ∃ i, i < n ∧ (ordL n zs).getD a 0 = tid zs i
  | 0, _, _, a, ha => by omega
  | q + 1, zs, h, 0, _ => ⟨nx zs q, Nat.lt_succ_of_le (nx_le zs q), rfl⟩
  | q + 1, zs, h, a + 1, ha => by
    obtain ⟨i, hi, e⟩ := ord_from q _ (stay_ok h) a (by omega)
    obtain ⟨j, hj, _, e2⟩ := stk_was h hi
    exact ⟨j, hj, by rw [ord_succ, e]; exact congrArg Prod.fst e2⟩
theorem ord_has : ∀ (n : Nat) (zs : List Int), vtk n zs = true → ∀ i, i < n → ∃ a, a < n ∧ (ordL n zs).getD a 0 = tid zs i
  | 0, _, _, i, hi => by omega
  | q + 1, zs, h, i, hi => by
    have hm : nx zs q < q + 1 := Nat.lt_succ_of_le (nx_le zs q)
    have hl := stk_one (zs := zs) (m := nx zs q) (q + 1) hm
    by_cases e : i = nx zs q
    · exact ⟨0, by omega, by rw [e]; rfl⟩
    · obtain ⟨h1, h2⟩ := stk_lies' (zs := zs) (p := nx zs q) hi e
      obtain ⟨a, ha, e2⟩ := ord_has q _ (stay_ok h) _ (show (stk zs (nx zs q) i).length < q by omega)
      exact ⟨a + 1, by omega, by rw [ord_succ, e2]; exact congrArg Prod.fst h2⟩
/-- Of two tasks of the same age, the one of the smaller rank comes first. -/
theorem ord_rank : ∀ (n : Nat) (zs : List Int), vtk n zs = true → ∀ i k a b, i < n → k < n → a < n → b < n → (ordL n zs).getD a 0 = tid zs i → (ordL n zs).getD b 0 = tid zs k → tag zs i = tag zs k → trk zs i < trk zs k → a < b
  | 0, _, _, i, _, _, _, hi, _, _, _, _, _, _, _ => by omega
  | q + 1, zs, h, i, k, 0, 0, hi, hk, _, _, ea, eb, _, hr => by
    have := ids_eq h hi hk (by rw [← ea, ← eb])
    subst this; omega
  | q + 1, zs, h, i, k, 0, b + 1, _, _, _, _, _, _, _, _ => by omega
  | q + 1, zs, h, i, k, a + 1, 0, hi, hk, _, _, ea, eb, hg, hr => by
    have hm : nx zs q < q + 1 := Nat.lt_succ_of_le (nx_le zs q)
    have e := ids_eq h hm hk eb
    have hmin := nx_min zs q i (by omega)
    rw [e] at hmin
    have h2 : trk zs k - 4 * tag zs k < trk zs i - 4 * tag zs i ∨ (trk zs k - 4 * tag zs k = trk zs i - 4 * tag zs i ∧ tid zs k ≤ tid zs i) := hmin
    omega
  | q + 1, zs, h, i, k, a + 1, b + 1, hi, hk, ha, hb, ea, eb, hg, hr => by
    have hv := stay_ok h
    obtain ⟨i', hi', e1⟩ := ord_from q _ hv a (by omega)
    obtain ⟨k', hk', e2⟩ := ord_from q _ hv b (by omega)
    obtain ⟨i2, hi2, _, f1⟩ := stk_was h hi'
    obtain ⟨k2, hk2, _, f2⟩ := stk_was h hk'
    rw [ord_succ] at ea eb
    have d1 : i2 = i := ids_eq h hi2 hi (by
      have := congrArg Prod.fst f1
      have h3 : tid (flL (stk zs (nx zs q) (q + 1))) i' = tid zs i2 := this
      rw [← h3, ← e1]; exact ea)
    have d2 : k2 = k := ids_eq h hk2 hk (by
      have := congrArg Prod.fst f2
      have h3 : tid (flL (stk zs (nx zs q) (q + 1))) k' = tid zs k2 := this
      rw [← h3, ← e2]; exact eb)
    subst d1; subst d2
    have r1 : trk (flL (stk zs (nx zs q) (q + 1))) i' = trk zs i2 := congrArg (fun t : Tk => t.2.1) f1
    have r2 : trk (flL (stk zs (nx zs q) (q + 1))) k' = trk zs k2 := congrArg (fun t : Tk => t.2.1) f2
    have g1 : tag (flL (stk zs (nx zs q) (q + 1))) i' = min (tag zs i2 + 1) 20 := congrArg (fun t : Tk => t.2.2) f1
    have g2 : tag (flL (stk zs (nx zs q) (q + 1))) k' = min (tag zs k2 + 1) 20 := congrArg (fun t : Tk => t.2.2) f2
    have := ord_rank q _ hv i' k' a b hi' hk' (by omega) (by omega) e1 e2 (by rw [g1, g2, hg]) (by rw [r1, r2]; exact hr)
    omega
/-- Each number comes once. -/
theorem ord_inj : ∀ (n : Nat) (zs : List Int), vtk n zs = true → ∀ a b, a < n → b < n → (ordL n zs).getD a 0 = (ordL n zs).getD b 0 → a = b
  | 0, _, _, a, _, ha, _, _ => by omega
  | q + 1, zs, h, 0, 0, _, _, _ => rfl
  | q + 1, zs, h, a + 1, b + 1, ha, hb, e => by
    have := ord_inj q _ (stay_ok h) a b (by omega) (by omega) e
    omega
  | q + 1, zs, h, 0, b + 1, _, hb, e => by
    obtain ⟨i', hi', e1⟩ := ord_from q _ (stay_ok h) b (by omega)
    obtain ⟨j, hj, hne, f⟩ := stk_was h hi'
    have f2 : tid (flL (stk zs (nx zs q) (q + 1))) i' = tid zs j := congrArg Prod.fst f
    rw [ord_succ, e1, f2] at e
    exact absurd (ids_eq h hj (Nat.lt_succ_of_le (nx_le zs q)) e.symm) hne
  | q + 1, zs, h, a + 1, 0, ha, _, e => by
    obtain ⟨i', hi', e1⟩ := ord_from q _ (stay_ok h) a (by omega)
    obtain ⟨j, hj, hne, f⟩ := stk_was h hi'
    have f2 : tid (flL (stk zs (nx zs q) (q + 1))) i' = tid zs j := congrArg Prod.fst f
    rw [ord_succ, e1, f2] at e
    exact absurd (ids_eq h hj (Nat.lt_succ_of_le (nx_le zs q)) e) hne
/-- The places of the numbers, as far as the first j say. -/
def plc (os : List Int) : Nat → List Int
  | 0 => List.replicate 100 0
  | j + 1 => (plc os j).set (os.getD j 0).toNat (j : Int)
theorem plc_len (os : List Int) : ∀ j, (plc os j).length = 100
  | 0 => by show (List.replicate 100 (0 : Int)).length = 100; rw [List.length_replicate]
  | j + 1 => by show ((plc os j).set _ _).length = 100; rw [List.length_set]; exact plc_len os j
theorem plc_at {os : List Int} (hb : ∀ a, a < n → 0 ≤ os.getD a 0 ∧ os.getD a 0 ≤ 99) (hi : ∀ a b, a < n → b < n → os.getD a 0 = os.getD b 0 → a = b) : ∀ j, j ≤ n → ∀ a, a < j → (plc os j).getD (os.getD a 0).toNat 0 = (a : Int)
  | 0, _, a, ha => by omega
  | j + 1, hj, a, ha => by
    have h1 := hb a (by omega)
    have h2 := hb j (by omega)
    show ((plc os j).set (os.getD j 0).toNat (j : Int)).getD (os.getD a 0).toNat 0 = _
    rw [getD_set _ _ _ _ (by rw [plc_len]; omega)]
    by_cases e : (os.getD j 0).toNat = (os.getD a 0).toNat
    · rw [if_pos e]
      have := hi j a (by omega) (by omega) (by omega)
      rw [this]
    · rw [if_neg e]
      refine plc_at hb hi j (by omega) a ?_
      rcases Nat.lt_or_ge a j with h3 | h3
      · exact h3
      · exfalso
        obtain rfl : a = j := by omega
        exact e rfl
/-- Where the order is the tasks', the places are the order's. -/
theorem plc_rank (h : vtk n zs = true) (hi : i < n) (hk : k < n) (hg : tag zs i = tag zs k) (hr : trk zs i < trk zs k) : (plc (ordL n zs) n).getD (tid zs i).toNat 0 < (plc (ordL n zs) n).getD (tid zs k).toNat 0 := by
  obtain ⟨a, ha, ea⟩ := ord_has n zs h i hi
  obtain ⟨b, hb, eb⟩ := ord_has n zs h k hk
  have bd : ∀ c, c < n → 0 ≤ (ordL n zs).getD c 0 ∧ (ordL n zs).getD c 0 ≤ 99 := fun c hc => by
    obtain ⟨m, hm, e⟩ := ord_from n zs h c hc
    rw [e]
    exact ((vtk_at h).2 m hm).1.1
  have pa := plc_at bd (ord_inj n zs h) n (Nat.le_refl _) a ha
  have pb := plc_at bd (ord_inj n zs h) n (Nat.le_refl _) b hb
  rw [ea] at pa
  rw [eb] at pb
  have := ord_rank n zs h i k a b hi hk ha hb ea eb hg hr
  rw [pa, pb]
  omega
end
end Go.Proofs.Ytpkombjmbpgdnaa
