/- Plain facts on pushing: what is in a queue behind a push; pushing twice; pushing two tasks in either order; a task that was taken pushed again. No condition. -/
import Derived.Test.YtecnhjofgkhlnaaPshM
import Derived.Test.YtecnhjofgkhlnaaHeapE
namespace Go.Proofs.Ytecnhjofgkhlnaa
open Go.RowKit

section
variable {zs zs' : List Int} {n n' k p : Nat} {d e r s : Int} {u : Tk}
theorem tks_get (h : k < n) : (tks zs n)[k]'(by rw [tks_len]; exact h) = tkOf zs k := by unfold tks; simp
theorem mem_psL (h : vtk n zs = true) : u ∈ psL zs n d r ↔ (u ∈ tks zs n ∧ u.1 ≠ d) ∨ u = psT zs n d r := by
  have hp := (pl_of (d := d) h).1
  have hq := pn_le (d := d) h
  unfold psL
  rw [List.mem_append, List.mem_append, List.mem_singleton]
  constructor
  · rintro ((h1 | h1) | h1)
    · obtain ⟨k, hk, e⟩ := List.mem_iff_getElem.1 h1
      rw [List.length_take, tks_len] at hk
      rw [List.getElem_take, tks_get (by omega)] at e
      refine .inl ⟨tks_mem.2 ⟨k, by omega, e⟩, ?_⟩
      have := (pl_lt (d := d) h (k := k) (by omega)).2 (by omega)
      rw [← e]; show tid zs k ≠ d; omega
    · exact .inr h1
    · obtain ⟨k, hk, e⟩ := List.mem_iff_getElem.1 h1
      rw [List.length_drop, tks_len] at hk
      rw [List.getElem_drop, tks_get (by omega)] at e
      refine .inl ⟨tks_mem.2 ⟨pn zs n d + k, by omega, e⟩, ?_⟩
      have := (pn_gt (d := d) h (k := pn zs n d + k) (by omega)).2 (by omega)
      rw [← e]; show tid zs (pn zs n d + k) ≠ d; omega
  · rintro (⟨h1, h2⟩ | h1)
    · obtain ⟨k, hk, rfl⟩ := tks_mem.1 h1
      have h2 : tid zs k ≠ d := h2
      by_cases h3 : tid zs k < d
      · have h4 := (pl_lt (d := d) h hk).1 h3
        refine .inl (.inl (List.mem_iff_getElem.2 ⟨k, by rw [List.length_take, tks_len]; omega, ?_⟩))
        rw [List.getElem_take, tks_get hk]
      · have h4 := (pn_gt (d := d) h hk).1 (by omega)
        refine .inr (List.mem_iff_getElem.2 ⟨k - pn zs n d, by rw [List.length_drop, tks_len]; omega, ?_⟩)
        rw [List.getElem_drop]
        have e : pn zs n d + (k - pn zs n d) = k := by omega
        simp only [e]
        exact tks_get hk
    · exact .inl (.inr h1)
theorem fnd_mem (h : vtk n zs = true) : fnd zs n d = true ↔ ∃ u, u ∈ tks zs n ∧ u.1 = d := by
  rw [fnd_iff]
  constructor
  · rintro ⟨h1, h2⟩
    exact ⟨tkOf zs (pl zs d n), tks_mem.2 ⟨_, h1, rfl⟩, h2⟩
  · rintro ⟨u, hu, e⟩
    obtain ⟨k, hk, rfl⟩ := tks_mem.1 hu
    obtain ⟨hf, e2⟩ := (pl_eq (d := d) h hk).1 e
    exact fnd_iff.1 hf
theorem psT_some (h : vtk n zs = true) (hu : u ∈ tks zs n) (he : u.1 = d) : psT zs n d r = (d, min u.2.1 r, u.2.2) := by
  obtain ⟨k, hk, rfl⟩ := tks_mem.1 hu
  obtain ⟨hf, e2⟩ := (pl_eq (d := d) h hk).1 he
  unfold psT
  rw [if_pos hf, ← e2]
  rfl
theorem psT_none (h : ¬ ∃ u, u ∈ tks zs n ∧ u.1 = d) (hv : vtk n zs = true) : psT zs n d r = (d, r, 0) := by
  unfold psT
  rw [if_neg (fun hf => h ((fnd_mem hv).1 hf))]
/-- The queue behind a push that succeeds. -/
theorem ps_ok (h : psOk n zs d r = true) : psV n zs d r = true ∧ vtk (psL zs n d r).length (flL (psL zs n d r)) = true ∧ tks (flL (psL zs n d r)) (psL zs n d r).length = psL zs n d r := by
  unfold psOk at h
  rw [Bool.and_eq_true] at h
  exact ⟨h.1, by rw [psL_valid h.1]; exact h.2, tks_flL _⟩
theorem psOk_iff : psOk n zs d r = true ↔ psV n zs d r = true ∧ (fnd zs n d = true ∨ n < 10) := by
  unfold psOk
  rw [Bool.and_eq_true, Bool.or_eq_true, decide_eq_true_eq]
theorem psA_mul (n : Nat) (zs : List Int) (d r : Int) : ∃ M, (psA n zs d r).length = M * 3 ∧ M ≤ 11 := by
  unfold psA
  split
  · next h =>
    have h1 := psL_len (d := d) (r := r) (psV_iff.1 (psOk_iff.1 h).1).1
    have h2 := (vtk_at (psV_iff.1 (psOk_iff.1 h).1).1).1
    exact ⟨(psL zs n d r).length, flL_len _, by split at h1 <;> omega⟩
  · exact ⟨0, rfl, by omega⟩
theorem psA_yes (h : psOk n zs d r = true) : psA n zs d r = flL (psL zs n d r) := if_pos h
theorem psA_no (h : psOk n zs d r = false) : psA n zs d r = [] := by unfold psA; rw [h]; rfl
/-- Pushing twice is pushing the smaller rank. -/
theorem ps_twice (h : psOk n zs d r = true) (hs : 0 ≤ s ∧ s ≤ 50) :
    psOk (psL zs n d r).length (flL (psL zs n d r)) d s = true ∧ psOk n zs d (min r s) = true ∧ psL (flL (psL zs n d r)) (psL zs n d r).length d s = psL zs n d (min r s) := by
  obtain ⟨hv, hv1, ht⟩ := ps_ok h
  obtain ⟨h0, hd, hr⟩ := psV_iff.1 hv
  have hv2 : psV n zs d (min r s) = true := psV_iff.2 ⟨h0, hd, by omega⟩
  have hv3 : psV (psL zs n d r).length (flL (psL zs n d r)) d s = true := psV_iff.2 ⟨hv1, hd, hs⟩
  have hT : psT zs n d r ∈ tks (flL (psL zs n d r)) (psL zs n d r).length := by rw [ht]; exact (mem_psL h0).2 (.inr rfl)
  refine ⟨psOk_iff.2 ⟨hv3, .inl ((fnd_mem hv1).2 ⟨_, hT, psT_id⟩)⟩, psOk_iff.2 ⟨hv2, (psOk_iff.1 h).2⟩, asc_eq (psL_asc hv3) (psL_asc hv2) fun u => ?_⟩
  have eT : psT (flL (psL zs n d r)) (psL zs n d r).length d s = psT zs n d (min r s) := by
    rw [psT_some hv1 hT psT_id]
    by_cases hx : ∃ u, u ∈ tks zs n ∧ u.1 = d
    · obtain ⟨u, hu, he⟩ := hx
      rw [psT_some h0 hu he, psT_some h0 hu he]
      show (d, min (min u.2.1 r) s, u.2.2) = (d, min u.2.1 (min r s), u.2.2)
      rw [Int.min_assoc]
    · rw [psT_none hx h0, psT_none hx h0]
  rw [mem_psL hv1, mem_psL h0, ht, mem_psL h0, eT]
  constructor
  · rintro (⟨h1 | h1, h2⟩ | h1)
    · exact .inl h1
    · rw [h1] at h2; exact absurd psT_id h2
    · exact .inr h1
  · rintro (h1 | h1)
    · exact .inl ⟨.inl h1, h1.2⟩
    · exact .inr h1
/-- Another task's push does not change what is put there. -/
theorem psT_far (h : psOk n zs d r = true) (hne : e ≠ d) : psT (flL (psL zs n d r)) (psL zs n d r).length e s = psT zs n e s ∧ (fnd (flL (psL zs n d r)) (psL zs n d r).length e = true ↔ fnd zs n e = true) := by
  obtain ⟨hv, hv1, ht⟩ := ps_ok h
  have h0 := (psV_iff.1 hv).1
  have hm : ∀ u : Tk, u.1 = e → (u ∈ tks (flL (psL zs n d r)) (psL zs n d r).length ↔ u ∈ tks zs n) := fun u hu => by
    rw [ht, mem_psL h0]
    constructor
    · rintro (h1 | h1)
      · exact h1.1
      · exfalso; apply hne; rw [← hu, h1]; exact psT_id
    · intro h1; exact .inl ⟨h1, by rw [hu]; exact hne⟩
  refine ⟨?_, ?_⟩
  · by_cases hx : ∃ u, u ∈ tks zs n ∧ u.1 = e
    · obtain ⟨u, hu, he⟩ := hx
      rw [psT_some hv1 ((hm u he).2 hu) he, psT_some h0 hu he]
    · rw [psT_none hx h0, psT_none (fun ⟨u, hu, he⟩ => hx ⟨u, (hm u he).1 hu, he⟩) hv1]
  · rw [fnd_mem hv1, fnd_mem h0]
    exact ⟨fun ⟨u, hu, he⟩ => ⟨u, (hm u he).1 hu, he⟩, fun ⟨u, hu, he⟩ => ⟨u, (hm u he).2 hu, he⟩⟩
/-- Two tasks pushed in either order. -/
theorem ps_order (h1 : psOk n zs d r = true) (hne : d ≠ e) (h2 : psOk (psL zs n d r).length (flL (psL zs n d r)) e s = true) (h3 : psOk n zs e s = true) :
    psOk (psL zs n e s).length (flL (psL zs n e s)) d r = true ∧ psL (flL (psL zs n d r)) (psL zs n d r).length e s = psL (flL (psL zs n e s)) (psL zs n e s).length d r := by
  obtain ⟨hv, hv1, ht⟩ := ps_ok h1
  obtain ⟨kv, kv1, kt⟩ := ps_ok h3
  obtain ⟨h0, hd, hr⟩ := psV_iff.1 hv
  have hv2 := (psOk_iff.1 h2).1
  have hv3 : psV (psL zs n e s).length (flL (psL zs n e s)) d r = true := psV_iff.2 ⟨kv1, hd, hr⟩
  obtain ⟨t1, f1⟩ := psT_far (s := s) h1 (Ne.symm hne)
  obtain ⟨t2, f2⟩ := psT_far (s := r) h3 hne
  have l1 := psL_len (d := d) (r := r) h0
  have l2 := psL_len (d := e) (r := s) h0
  refine ⟨psOk_iff.2 ⟨hv3, ?_⟩, asc_eq (psL_asc hv2) (psL_asc hv3) fun u => ?_⟩
  · rcases (psOk_iff.1 h1).2 with a | a
    · exact .inl (f2.2 a)
    · by_cases b : fnd zs n d = true
      · exact .inl (f2.2 b)
      · rw [if_neg b] at l1
        refine .inr ?_
        rcases (psOk_iff.1 h2).2 with c | c
        · rw [if_pos (f1.1 c)] at l2; omega
        · rw [l2]; split <;> omega
  · rw [mem_psL hv1, mem_psL kv1, ht, kt, mem_psL h0, mem_psL h0, t1, t2]
    have i1 : (psT zs n d r).1 = d := psT_id
    have i2 : (psT zs n e s).1 = e := psT_id
    constructor
    · rintro (⟨⟨a, b⟩ | a, c⟩ | a)
      · exact .inl ⟨.inl ⟨a, c⟩, b⟩
      · exact .inr a
      · exact .inl ⟨.inr a, by rw [a, i2]; exact Ne.symm hne⟩
    · rintro (⟨⟨a, b⟩ | a, c⟩ | a)
      · exact .inl ⟨.inl ⟨a, c⟩, b⟩
      · exact .inr a
      · exact .inl ⟨.inr a, by rw [a, i1]; exact hne⟩
end
end Go.Proofs.Ytecnhjofgkhlnaa
