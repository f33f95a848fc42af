/- Plain facts on taking: where the tasks that stay lie; the task that was taken pushed again; where the pushed task lies. No condition. -/
import Derived.Test.YtecnhjofgkhlnaaTkL
namespace Go.Proofs.Ytecnhjofgkhlnaa
open Go.RowKit

section
variable {zs : List Int} {n k p i j : Nat} {d r : Int} {u : Tk}
theorem stk_pre (zs : List Int) (p : Nat) : ∀ j i, i ≤ j → ∃ l, stk zs p j = stk zs p i ++ l
  | 0, i, h => by obtain rfl : i = 0 := by omega
                  exact ⟨[], by simp⟩
  | j + 1, i, h => by
    by_cases e : i = j + 1
    · subst e; exact ⟨[], by simp⟩
    · obtain ⟨l, hl⟩ := stk_pre zs p j i (by omega)
      by_cases e2 : j = p
      · subst e2; exact ⟨l, by rw [stk_at]; exact hl⟩
      · exact ⟨l ++ [age1 (tkOf zs j)], by rw [stk_other e2, hl, List.append_assoc]⟩
/-- A task that stays lies behind those that stay and were ahead of it. -/
theorem stk_lies (hi : i < n) (hne : i ≠ p) : (stk zs p i).length < (stk zs p n).length ∧ tkOf (flL (stk zs p n)) (stk zs p i).length = age1 (tkOf zs i) := by
  obtain ⟨l, hl⟩ := stk_pre zs p n (i + 1) hi
  rw [stk_other hne, List.append_assoc] at hl
  have h1 : (stk zs p i).length < (stk zs p n).length := by rw [hl]; simp
  refine ⟨h1, ?_⟩
  rw [tkOf_flL h1]
  simp only [hl]
  simp
/-- The task that was taken, pushed again. -/
theorem take_push (h : vtk n zs = true) (h0 : 0 < n) : ∃ S m, stk zs (nx zs (n - 1)) n = S ∧ S.length = m ∧ m + 1 = n ∧ psOk m (flL S) (tid zs (nx zs (n - 1))) 9 = true ∧ (psL (flL S) m (tid zs (nx zs (n - 1))) 9).length = n ∧ ∀ u, u ∈ psL (flL S) m (tid zs (nx zs (n - 1))) 9 → u.1 = tid zs (nx zs (n - 1)) → u = (tid zs (nx zs (n - 1)), 9, 0) := by
  have hp : nx zs (n - 1) < n := by have := nx_le zs (n - 1); omega
  refine ⟨stk zs (nx zs (n - 1)) n, (stk zs (nx zs (n - 1)) n).length, rfl, rfl, stk_one n hp, ?_⟩
  generalize nx zs (n - 1) = p at *
  have hv := stk_ok h hp
  have ht := tks_flL (stk zs p n)
  have hl := stk_one (zs := zs) (m := p) n hp
  have hn := (vtk_at h).1
  have hid := ((vtk_at h).2 p hp).1.1
  have pv : psV (stk zs p n).length (flL (stk zs p n)) (tid zs p) 9 = true := psV_iff.2 ⟨hv, hid, by omega⟩
  have no : ¬ ∃ u, u ∈ tks (flL (stk zs p n)) (stk zs p n).length ∧ u.1 = tid zs p := by
    rintro ⟨u, hu, e⟩
    rw [ht, stk_eq h hp n (Nat.le_refl _), List.mem_map] at hu
    obtain ⟨v, hv, rfl⟩ := hu
    obtain ⟨hv1, hv2⟩ := List.mem_filter.1 hv
    obtain ⟨k, hk, rfl⟩ := tks_mem.1 hv1
    have e : tid zs k = tid zs p := e
    have hkp : k = p := by
      rcases Nat.lt_trichotomy k p with h3 | h3 | h3
      · have := ((vtk_at h).2 p hp).2 k h3; omega
      · exact h3
      · have := ((vtk_at h).2 k hk).2 p h3; omega
    subst hkp
    simp at hv2
  have fn : ¬ fnd (flL (stk zs p n)) (stk zs p n).length (tid zs p) = true := fun hf => no ((fnd_mem hv).1 hf)
  refine ⟨psOk_iff.2 ⟨pv, .inr (by omega)⟩, ?_, fun u hu he => ?_⟩
  · rw [psL_len hv, if_neg fn]; exact hl
  · rcases (mem_psL hv).1 hu with ⟨_, h2⟩ | h2
    · exact absurd he h2
    · rw [h2, psT_none no hv]
/-- Of the tasks behind a push, the pushed one lies at its place, and the others have other numbers. -/
theorem ps_place (h : psOk n zs d r = true) : pl zs d n < (psL zs n d r).length ∧ ∀ k, k < (psL zs n d r).length → (tid (flL (psL zs n d r)) k = d ↔ k = pl zs d n) := by
  obtain ⟨pv, hv1, ht⟩ := ps_ok h
  have hv := (psV_iff.1 pv).1
  have hp := (pl_of (d := d) hv).1
  have e0 : (psL zs n d r)[pl zs d n]? = some (psT zs n d r) := by
    unfold psL
    rw [List.append_assoc, List.getElem?_append_right (by rw [List.length_take]; omega), List.length_take, tks_len, show pl zs d n - min (pl zs d n) n = 0 by omega]
    rfl
  have l0 : pl zs d n < (psL zs n d r).length := (List.getElem?_eq_some_iff.1 e0).1
  have t0 : tkOf (flL (psL zs n d r)) (pl zs d n) = psT zs n d r := by
    rw [tkOf_flL l0]
    exact (List.getElem?_eq_some_iff.1 e0).2
  have i0 : tid (flL (psL zs n d r)) (pl zs d n) = d := by
    show (tkOf (flL (psL zs n d r)) (pl zs d n)).1 = d
    rw [t0]; exact psT_id
  refine ⟨l0, fun k hk => ⟨fun e => ?_, fun e => by rw [e]; exact i0⟩⟩
  rcases Nat.lt_trichotomy k (pl zs d n) with h3 | h3 | h3
  · have := ((vtk_at hv1).2 _ l0).2 k h3; omega
  · exact h3
  · have := ((vtk_at hv1).2 k hk).2 _ h3; omega
/-- The pushed task's rank is no greater. -/
theorem ps_rank (h : psOk n zs d r = true) : trk (flL (psL zs n d r)) (pl zs d n) ≤ r := by
  obtain ⟨pv, hv1, ht⟩ := ps_ok h
  have hv := (psV_iff.1 pv).1
  have hp := (pl_of (d := d) hv).1
  have e0 : (psL zs n d r)[pl zs d n]? = some (psT zs n d r) := by
    unfold psL
    rw [List.append_assoc, List.getElem?_append_right (by rw [List.length_take]; omega), List.length_take, tks_len, show pl zs d n - min (pl zs d n) n = 0 by omega]
    rfl
  have l0 : pl zs d n < (psL zs n d r).length := (List.getElem?_eq_some_iff.1 e0).1
  have t0 : tkOf (flL (psL zs n d r)) (pl zs d n) = psT zs n d r := by
    rw [tkOf_flL l0]
    exact (List.getElem?_eq_some_iff.1 e0).2
  show (tkOf (flL (psL zs n d r)) (pl zs d n)).2.1 ≤ r
  rw [t0]
  unfold psT
  split
  · show min (trk zs (pl zs d n)) r ≤ r; omega
  · exact Int.le_refl _
/-- The other tasks are still there. -/
theorem ps_there (h : psOk n zs d r = true) (hi : i < n) (hne : tid zs i ≠ d) : ∃ k, k < (psL zs n d r).length ∧ tkOf (flL (psL zs n d r)) k = tkOf zs i := by
  obtain ⟨pv, hv1, ht⟩ := ps_ok h
  have hv := (psV_iff.1 pv).1
  have hm : tkOf zs i ∈ psL zs n d r := (mem_psL hv).2 (.inl ⟨tks_mem.2 ⟨i, hi, rfl⟩, hne⟩)
  obtain ⟨k, hk, e⟩ := List.mem_iff_getElem.1 hm
  exact ⟨k, hk, by rw [tkOf_flL hk]; exact e⟩
end
end Go.Proofs.Ytecnhjofgkhlnaa
