/- Plain facts: what stays where a task is taken is valid, and is the list without it. -/
import Derived.Test.YtpkombjmbpgdnaaHeapY
namespace Go.Proofs.Ytpkombjmbpgdnaa
open Go.RowKit

theorem vtk_of {n : Nat} {zs : List Int} (h : n ≤ 10) (hv : ∀ k, k < n → VT (tkOf zs k)) (ha : ∀ k, k + 1 < n → tid zs k < tid zs (k + 1)) : vtk n zs = true := by
  unfold vtk
  rw [Bool.and_eq_true, decide_eq_true_eq, upB_iff]
  refine ⟨by omega, fun k hk => ?_⟩
  obtain ⟨⟨a1, a2⟩, ⟨a3, a4⟩, a5, a6⟩ := hv k hk
  refine okT_iff.2 ⟨?_, a2, a3, a4, a5, a6⟩
  rcases k with _ | k
  · unfold low; exact a1
  · rw [low_succ]
    have := ha k hk
    omega
theorem flL_at : ∀ (l : List Tk) (k : Nat) (h : k < l.length), (flL l).getD (k * 3) 0 = l[k].1 ∧ (flL l).getD (k * 3 + 1) 0 = l[k].2.1 ∧ (flL l).getD (k * 3 + 2) 0 = l[k].2.2
  | t :: l, 0, _ => ⟨rfl, rfl, rfl⟩
  | t :: l, k + 1, h => by
    have e : flL (t :: l) = t.1 :: t.2.1 :: t.2.2 :: flL l := rfl
    rw [e, show (k + 1) * 3 = k * 3 + 1 + 1 + 1 by omega]
    exact flL_at l k (Nat.lt_of_succ_lt_succ h)
theorem tkOf_flL {l : List Tk} {k : Nat} (h : k < l.length) : tkOf (flL l) k = l[k] := by
  obtain ⟨a, b, c⟩ := flL_at l k h
  show ((flL l).getD (k * 3) 0, (flL l).getD (k * 3 + 1) 0, (flL l).getD (k * 3 + 2) 0) = l[k]
  rw [a, b, c]
theorem vtk_flL {l : List Tk} (h : l.length ≤ 10) (hv : ∀ t, t ∈ l → VT t) (ha : Asc l) : vtk l.length (flL l) = true :=
  vtk_of h (fun k hk => by rw [tkOf_flL hk]; exact hv _ (List.getElem_mem hk)) fun k hk => by
    show (tkOf (flL l) k).1 < (tkOf (flL l) (k + 1)).1
    rw [tkOf_flL (show k < l.length by omega), tkOf_flL hk]
    exact List.pairwise_iff_getElem.1 ha k (k + 1) (by omega) hk (by omega)
theorem tks_asc {n : Nat} {zs : List Int} (h : vtk n zs = true) : Asc (tks zs n) := by
  unfold tks Asc
  rw [List.pairwise_map]
  exact List.pairwise_lt_range.imp_of_mem fun {a b} _ hb hab => ((vtk_at h).2 b (List.mem_range.1 hb)).2 a hab
/-- What stays is the list without the task, each older. -/
theorem stk_eq {n m : Nat} {zs : List Int} (h : vtk n zs = true) (hm : m < n) : ∀ j, j ≤ n → stk zs m j = ((tks zs j).filter fun u => u ≠ tkOf zs m).map age1
  | 0, _ => rfl
  | j + 1, hj => by
    have ih := stk_eq h hm j (by omega)
    rw [tks_succ, List.filter_append, List.map_append, ← ih]
    by_cases e : j = m
    · subst e
      rw [stk_at]
      simp
    · have hne : tkOf zs j ≠ tkOf zs m := fun e2 => by
        have e3 : tid zs j = tid zs m := congrArg Prod.fst e2
        rcases Nat.lt_or_ge j m with h1 | h1
        · have := ((vtk_at h).2 m hm).2 j h1; omega
        · have := ((vtk_at h).2 j (by omega)).2 m (by omega); omega
      rw [stk_other e]
      simp [hne]
theorem stk_ok {n m : Nat} {zs : List Int} (h : vtk n zs = true) (hm : m < n) : vtk (stk zs m n).length (flL (stk zs m n)) = true := by
  refine vtk_flL (Nat.le_trans (stk_len zs m n) (vtk_at h).1) (fun t ht => ?_) ?_
  · rw [stk_eq h hm n (Nat.le_refl _), List.mem_map] at ht
    obtain ⟨u, hu, rfl⟩ := ht
    obtain ⟨k, hk, rfl⟩ := tks_mem.1 (List.mem_filter.1 hu).1
    exact age_vt ((vtk_at h).2 k hk).1
  · rw [stk_eq h hm n (Nat.le_refl _)]
    unfold Asc
    rw [List.pairwise_map]
    exact (List.Pairwise.sublist List.filter_sublist (tks_asc h)).imp fun {a b} hab => hab
/-- One fewer stays. -/
theorem stk_one {m : Nat} {zs : List Int} : ∀ j, m < j → (stk zs m j).length + 1 = j
  | 0, h => by omega
  | j + 1, h => by
    by_cases e : j = m
    · subst e
      have all : ∀ i, i ≤ j → (stk zs j i).length = i := fun i => by
        induction i with
        | zero => intro _; rfl
        | succ i ih => intro hi; rw [stk_other (by omega), List.length_append, ih (by omega)]; rfl
      rw [stk_at, all j (Nat.le_refl _)]
    · have := stk_one (zs := zs) (m := m) j (by omega)
      rw [stk_other e, List.length_append]
      simp only [List.length_singleton]
      omega
end Go.Proofs.Ytpkombjmbpgdnaa
