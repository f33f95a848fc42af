/- Plain facts on shares: the library's insertion sort, run by falling rest alone over places in their order, leaves equal rests in their order. No condition. -/
import Derived.Test.YtnipnemhbelcaaaShareN
import Derived.Sort.LotA
namespace Go.Proofs.Ytnipnemhbelcaaa
open Go.Sort

/-- Falling rest. -/
def ltR (x y : Int × Int) : Bool := decide (y.2 < x.2)
/-- Falling rest, equals by place. -/
def ltF (x y : Int × Int) : Bool := decide (y.2 < x.2 ∨ y.2 = x.2 ∧ x.1 < y.1)
theorem ltF_swo : SWO ltF where
  irrefl x := by simp [ltF]
  trans x y z h1 h2 := by
    simp only [ltF, decide_eq_true_eq] at *
    omega
  ntrans x y z h1 h2 := by
    simp only [ltF, decide_eq_false_iff_not] at *
    omega
theorem inner_size {lt : Int × Int → Int × Int → Bool} (a j : Nat) (d : Array (Int × Int)) : (insInner lt a j d).size = d.size := by
  induction j generalizing d with
  | zero => rfl
  | succ j ih =>
    unfold insInner
    split
    · rw [ih, swp_size]
    · rfl
theorem inner_eq (a j : Nat) (d : Array (Int × Int)) (hj : j < d.size) (h : ∀ p, p < j → d[p]!.1 < d[j]!.1) : insInner ltR a j d = insInner ltF a j d := by
  induction j generalizing d with
  | zero => rfl
  | succ j ih =>
    have e : ltR d[j + 1]! d[j]! = ltF d[j + 1]! d[j]! := by
      have := h j (by omega)
      unfold ltR ltF
      rw [decide_eq_decide]
      omega
    unfold insInner
    rw [e]
    split
    · refine ih _ (by rw [swp_size]; omega) fun p hp => ?_
      rw [swp_other _ _ _ _ (by omega) (by omega), swp_right _ _ _ (by omega)]
      exact h p (by omega)
    · rfl
theorem inner_from {lt : Int × Int → Int × Int → Bool} (a j : Nat) (d : Array (Int × Int)) (hj : j < d.size) (q : Nat) : (j < q → (insInner lt a j d)[q]! = d[q]!) ∧ (q ≤ j → ∃ p, p ≤ j ∧ (insInner lt a j d)[q]! = d[p]!) := by
  induction j generalizing d with
  | zero => exact ⟨fun _ => rfl, fun h => ⟨q, h, rfl⟩⟩
  | succ j ih =>
    unfold insInner
    split
    · have hh := ih (swp d (j + 1) j) (by rw [swp_size]; omega)
      refine ⟨fun hq => ?_, fun hq => ?_⟩
      · rw [hh.1 (by omega), swp_other _ _ _ _ (by omega) (by omega)]
      · by_cases h1 : q = j + 1
        · subst h1
          refine ⟨j, by omega, ?_⟩
          rw [hh.1 (by omega), swp_left _ _ _ (by omega) (by omega)]
        · obtain ⟨p, hp, e⟩ := hh.2 (by omega)
          by_cases h2 : p = j
          · subst h2
            exact ⟨p + 1, by omega, by rw [e, swp_right _ _ _ (by omega)]⟩
          · exact ⟨p, by omega, by rw [e, swp_other _ _ _ _ (by omega) (by omega)]⟩
    · exact ⟨fun _ => rfl, fun h => ⟨q, h, rfl⟩⟩
theorem outer_go (lt : Int × Int → Int × Int → Bool) (a b i : Nat) (d : Array (Int × Int)) (h : i < b) : insOuter lt a b i d = insOuter lt a b (i + 1) (insInner lt a i d) := by
  conv => lhs; rw [insOuter]
  rw [if_pos h]
theorem outer_end (lt : Int × Int → Int × Int → Bool) (a b i : Nat) (d : Array (Int × Int)) (h : ¬ i < b) : insOuter lt a b i d = d := by
  conv => lhs; rw [insOuter]
  rw [if_neg h]
theorem outer_eq (a b n i : Nat) (d : Array (Int × Int)) (hn : b - i = n) (hb : b ≤ d.size) (h : ∀ q, i ≤ q → q < b → ∀ p, p < q → d[p]!.1 < d[q]!.1) : insOuter ltR a b i d = insOuter ltF a b i d := by
  induction n generalizing i d with
  | zero =>
    rw [outer_end _ _ _ _ _ (by omega), outer_end _ _ _ _ _ (by omega)]
  | succ n ih =>
    have hi : i < b := by omega
    rw [outer_go _ _ _ _ _ hi, outer_go _ _ _ _ _ hi, inner_eq a i d (by omega) (h i (by omega) hi)]
    refine ih (i + 1) _ (by omega) (by rw [inner_size]; exact hb) fun q hq hqb p hp => ?_
    rw [(inner_from a i d (by omega) q).1 (by omega)]
    by_cases hpi : i < p
    · rw [(inner_from a i d (by omega) p).1 hpi]
      exact h q (by omega) hqb p hp
    · obtain ⟨p', hp', e⟩ := (inner_from (lt := ltF) a i d (by omega) p).2 (by omega)
      rw [e]
      exact h q (by omega) hqb p' (by omega)
/-- The places, each with its rest. -/
def pairsL (r : List Int) : List (Int × Int) := (List.range r.length).map fun (i : Nat) => ((i : Int), r.getD i 0)
theorem pairsL_len (r : List Int) : (pairsL r).length = r.length := by simp [pairsL]
theorem pairsL_at (r : List Int) (i : Nat) (h : i < r.length) : (pairsL r).toArray[i]! = ((i : Int), r.getD i 0) := by
  rw [getElem!_pos _ _ (by simpa [pairsL_len] using h)]
  simp [pairsL]
/-- The sorted pairs. -/
def sortedP (r : List Int) : Array (Int × Int) := Go.Sort.insertionSort ltR (pairsL r).toArray 0 r.length
theorem sortedP_eq (r : List Int) : sortedP r = Go.Sort.insertionSort ltF (pairsL r).toArray 0 r.length := by
  unfold sortedP Go.Sort.insertionSort
  refine outer_eq 0 r.length _ _ _ rfl (by simp [pairsL_len]) fun q hq hqb p hp => ?_
  rw [pairsL_at _ _ hqb, pairsL_at _ _ (by omega)]
  show (p : Int) < (q : Int)
  omega
theorem ext_all (d : Array (Int × Int)) (n : Nat) (h : d.size = n) : d.extract 0 n = d := by
  subst h
  simp
theorem sortedP_perm (r : List Int) : (sortedP r).size = r.length ∧ (sortedP r).toList.Perm (pairsL r) := by
  rw [sortedP_eq]
  obtain ⟨⟨h1, _, h3⟩, _⟩ := insertionSort_holds ltF_swo (pairsL r).toArray 0 r.length (by omega) (by simp [pairsL_len])
  have h1' : (Go.Sort.insertionSort ltF (pairsL r).toArray 0 r.length).size = r.length := by rw [h1]; simp [pairsL_len]
  refine ⟨h1', ?_⟩
  rw [ext_all _ _ h1', ext_all _ _ (by simp [pairsL_len])] at h3
  exact h3
/-- The places in the order of their turn. -/
def turnsL (r : List Int) : List Nat := (sortedP r).toList.map fun x => x.1.toNat
theorem turnsL_perm (r : List Int) : (turnsL r).Perm (List.range r.length) := by
  have h := (sortedP_perm r).2.map fun x => x.1.toNat
  have e : (pairsL r).map (fun x => x.1.toNat) = List.range r.length := by
    unfold pairsL
    rw [List.map_map]
    exact List.map_id' _
  rw [e] at h
  exact h
theorem turnsL_len (r : List Int) : (turnsL r).length = r.length := by
  have := (turnsL_perm r).length_eq
  simpa using this
theorem sortedP_at (r : List Int) (i : Nat) (h : i < r.length) : (turnsL r)[i]? = some ((sortedP r)[i]!.1.toNat) ∧ (sortedP r)[i]! = (((sortedP r)[i]!.1.toNat : Int), r.getD (sortedP r)[i]!.1.toNat 0) ∧ (sortedP r)[i]!.1.toNat < r.length := by
  have hs := (sortedP_perm r).1
  have hi : i < (sortedP r).size := by omega
  have hm : (sortedP r)[i]! ∈ pairsL r := by
    rw [← (sortedP_perm r).2.mem_iff, getElem!_pos (sortedP r) i hi]
    simp
  obtain ⟨k, hk, e⟩ := List.mem_map.1 hm
  have hk' : k < r.length := by simpa using hk
  refine ⟨?_, ?_, ?_⟩
  · unfold turnsL
    rw [getElem!_pos (sortedP r) i hi]
    simp [hi]
  · rw [← e]; simp
  · rw [← e]; simpa using hk'
theorem turnsL_front (r : List Int) : (turnsL r).Pairwise (Front r) := by
  have hs := (sortedP_perm r).1
  have hnd : (turnsL r).Nodup := (turnsL_perm r).nodup_iff.2 List.nodup_range
  rw [List.pairwise_iff_getElem]
  intro i j hi hj hij
  have hi' : i < r.length := by rw [turnsL_len] at hi; exact hi
  have hj' : j < r.length := by rw [turnsL_len] at hj; exact hj
  obtain ⟨a1, a2, _⟩ := sortedP_at r i hi'
  obtain ⟨b1, b2, _⟩ := sortedP_at r j hj'
  have ei : (turnsL r)[i] = (sortedP r)[i]!.1.toNat := by
    have := List.getElem?_eq_getElem hi
    rw [a1] at this
    exact (Option.some.inj this).symm
  have ej : (turnsL r)[j] = (sortedP r)[j]!.1.toNat := by
    have := List.getElem?_eq_getElem hj
    rw [b1] at this
    exact (Option.some.inj this).symm
  have hne : (turnsL r)[i] ≠ (turnsL r)[j] := by
    rw [List.nodup_iff_pairwise_ne, List.pairwise_iff_getElem] at hnd
    exact hnd i j hi hj hij
  have hsort := (insertionSort_holds ltF_swo (pairsL r).toArray 0 r.length (by omega) (by simp [pairsL_len])).2 i j (by omega) hij hj'
  rw [← sortedP_eq] at hsort
  rw [ei, ej] at hne ⊢
  generalize (sortedP r)[i]!.1.toNat = p at *
  generalize (sortedP r)[j]!.1.toNat = q at *
  rw [a2, b2] at hsort
  simp only [ltF, decide_eq_false_iff_not] at hsort
  unfold Front
  omega
/-- Handing out the rests: to the first of the sorted pairs. -/
theorem spin_turns (o r : List Int) (hr : ∀ i, i < r.length → 0 ≤ r.getD i 0) (j : Nat) (hj : j ≤ r.length) : (spinTo j (o, r)).1 = handL ((turnsL r).take j) o := by
  rw [spin_order (turnsL r) o r (turnsL_front r) (fun i hi => (turnsL_perm r).mem_iff.2 (List.mem_range.2 hi)) (fun i hi => List.mem_range.1 ((turnsL_perm r).mem_iff.1 hi)) hr j (by rw [turnsL_len]; exact hj)]
/-- What is left is less than the count. -/
theorem quo_rest (a s : Int) (hs : 0 < s) (xs : List Int) : a * xs.sum ≤ ((xs.map fun x => a * x / s).sum + (xs.length : Int)) * s := by
  induction xs with
  | nil => simp
  | cons x xs ih =>
    have h2 : a * x < (a * x / s + 1) * s := Int.lt_ediv_add_one_mul_self _ hs
    simp only [List.map_cons, List.sum_cons, List.length_cons, Int.add_mul, Int.mul_add, Int.natCast_add, Int.one_mul] at *
    omega
theorem left_le (a : Int) (ws : List Int) (hw : Wts ws) (hs : ws.sum ≠ 0) : leftL a ws ≤ (ws.length : Int) := by
  have h0 : 0 < ws.sum := by have := sum_nonneg (xs := ws) fun z hz => (hw z hz).1; omega
  have h1 := quo_rest a ws.sum h0 ws
  have h2 := Int.le_of_mul_le_mul_right h1 h0
  unfold leftL baseL
  omega
end Go.Proofs.Ytnipnemhbelcaaa
