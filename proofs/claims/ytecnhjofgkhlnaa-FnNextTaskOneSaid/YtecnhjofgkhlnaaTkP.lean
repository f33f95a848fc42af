/- Plain facts for the laws of queues: a task made the soonest of its rank; a task alone. No condition. -/
import Derived.Test.YtecnhjofgkhlnaaHeapZ
namespace Go.Proofs.Ytecnhjofgkhlnaa
open Go.RowKit

section
variable {zs zs' : List Int} {n k i : Nat}
/-- A queue is valid if its tasks are, and its numbers are those of a valid queue. -/
theorem vtk_like (h : vtk n zs = true) (hid : ∀ k, k < n → tid zs' k = tid zs k) (hv : ∀ k, k < n → VT (tkOf zs' k)) : vtk n zs' = true :=
  vtk_of (vtk_at h).1 hv fun k hk => by
    rw [hid k (by omega), hid (k + 1) hk]
    exact ((vtk_at h).2 (k + 1) hk).2 k (by omega)
/-- A task with rank 0 that has waited longest. -/
def top1 (zs : List Int) (k : Nat) : List Int := (zs.set (k * 3 + 1) 0).set (k * 3 + 2) 20
theorem top1_len : (top1 zs k).length = zs.length := by unfold top1; simp
theorem top1_at (h : zs.length = n * 3) (hi : i < n) (hk : k < n) : tkOf (top1 zs k) i = if i = k then (tid zs k, 0, 20) else tkOf zs i := by
  have e : ∀ j, j < n * 3 → (top1 zs k).getD j 0 = if j = k * 3 + 2 then 20 else if j = k * 3 + 1 then 0 else zs.getD j 0 := fun j hj => by
    unfold top1
    rw [getD_set _ _ _ _ (by rw [List.length_set]; omega), getD_set _ _ _ _ (by omega)]
    by_cases e1 : k * 3 + 2 = j
    · rw [if_pos e1, if_pos (show j = k * 3 + 2 by omega)]
    · rw [if_neg e1, if_neg (show ¬ j = k * 3 + 2 by omega)]
      by_cases e2 : k * 3 + 1 = j
      · rw [if_pos e2, if_pos (show j = k * 3 + 1 by omega)]
      · rw [if_neg e2, if_neg (show ¬ j = k * 3 + 1 by omega)]
  show ((top1 zs k).getD (i * 3) 0, (top1 zs k).getD (i * 3 + 1) 0, (top1 zs k).getD (i * 3 + 2) 0) = _
  rw [e _ (by omega), e _ (by omega), e _ (by omega)]
  by_cases h : i = k
  · subst h
    rw [if_neg (by omega), if_neg (by omega), if_neg (by omega), if_pos rfl, if_pos rfl, if_pos rfl]
    rfl
  · rw [if_neg (by omega), if_neg (by omega), if_neg (by omega), if_neg (by omega), if_neg (by omega), if_neg (by omega), if_neg h]
    rfl
theorem top1_ok (h : vtk n zs = true) (hl : zs.length = n * 3) (hk : k < n) : vtk n (top1 zs k) = true := by
  refine vtk_like h (fun i hi => ?_) fun i hi => ?_
  · have e := congrArg Prod.fst (top1_at (k := k) hl hi hk)
    show (tkOf (top1 zs k) i).1 = _
    rw [e]
    split
    · next h => rw [h]
    · rfl
  · rw [top1_at hl hi hk]
    split
    · have := ((vtk_at h).2 k hk).1.1
      exact ⟨this, by show (0 : Int) ≤ 0 ∧ (0 : Int) ≤ 50; omega, by show (0 : Int) ≤ 20 ∧ (20 : Int) ≤ 20; omega⟩
    · exact ((vtk_at h).2 i hi).1
/-- Nobody with a greater number is sooner than it. -/
theorem top1_next (h : vtk n zs = true) (hl : zs.length = n * 3) (hk : k < n) : 0 ≤ nxA n (top1 zs k) ∧ nxA n (top1 zs k) ≤ tid zs k := by
  have h2 := top1_ok h hl hk
  have e : nxA n (top1 zs k) = tid (top1 zs k) (nx (top1 zs k) (n - 1)) := if_pos ⟨h2, by omega⟩
  have hm := nx_min (top1 zs k) (n - 1) k (by omega)
  have hp : nx (top1 zs k) (n - 1) < n := by have := nx_le (top1 zs k) (n - 1); omega
  rw [e]
  have v := ((vtk_at h2).2 _ hp).1
  rw [top1_at hl hk hk, if_pos rfl] at hm
  generalize nx (top1 zs k) (n - 1) = p at *
  obtain ⟨⟨a0, a1⟩, ⟨b0, b1⟩, c0, c1⟩ := v
  refine ⟨a0, ?_⟩
  have hm2 : (tkOf (top1 zs k) p).2.1 - 4 * (tkOf (top1 zs k) p).2.2 < 0 - 4 * 20 ∨ ((tkOf (top1 zs k) p).2.1 - 4 * (tkOf (top1 zs k) p).2.2 = 0 - 4 * 20 ∧ (tkOf (top1 zs k) p).1 ≤ tid zs k) := hm
  show (tkOf (top1 zs k) p).1 ≤ _
  omega
/-- A task alone is next. -/
def lone (zs : List Int) (k : Nat) : List Int := [tid zs k, trk zs k, tag zs k]
theorem lone_next (h : VT (tkOf zs k)) : nxA 1 (lone zs k) = tid zs k := by
  have hv : vtk 1 (lone zs k) = true := vtk_of (by omega) (fun i hi => by
    obtain rfl : i = 0 := by omega
    exact h) fun i hi => by omega
  exact if_pos ⟨hv, by omega⟩
theorem lone_at {w : World} {b off c : Nat} (h : Sts 3 w (some ⟨b, off, none⟩) n zs) (hk : k < n) (_hc : c = c) : Sts 3 w (some ⟨b, off + k * 3, none⟩) 1 (lone zs k) := by
  obtain ⟨b', off', e, hb, hc⟩ := h.at_ (by omega)
  injection e with e
  injection e with e1 e2
  subst e1 e2
  refine ⟨rfl, fun _ => ⟨b, off + k * 3, rfl, hb, fun i hi => ?_⟩⟩
  have g := hc (k * 3 + i) (by omega)
  rw [← Nat.add_assoc] at g
  rw [g]
  rcases (show i = 0 ∨ i = 1 ∨ i = 2 by omega) with rfl | rfl | rfl <;> rfl
end
end Go.Proofs.Ytecnhjofgkhlnaa
