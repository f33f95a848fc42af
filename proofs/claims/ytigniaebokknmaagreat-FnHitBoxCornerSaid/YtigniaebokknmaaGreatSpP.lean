/- Plain facts on boxes that spill, for their laws: what fits its box does not spill. No condition. -/
import Derived.Test.YtigniaebokknmaaGreatSpilS
import Derived.Test.YtigniaebokknmaaGreatYC
import Derived.Test.YtigniaebokknmaaGreatIsIn
import Derived.Test.YtigniaebokknmaaGreatPlain
namespace Go.Proofs.YtigniaebokknmaaGreat
open Go.RowKit

section
variable {n p t i : Nat} {zs : List Int} {W H : Int}
theorem sp_mem : (i : Int) ∈ spTo zs n W H n ↔ 0 < i ∧ i < n ∧ splB zs n W H i = true := by
  unfold spTo
  simp only [List.mem_map, List.mem_filter, List.mem_range, Bool.and_eq_true, decide_eq_true_eq]
  refine ⟨fun ⟨j, ⟨h1, h2, h3⟩, e⟩ => ?_, fun ⟨h1, h2, h3⟩ => ⟨i, ⟨h2, h1, h3⟩, rfl⟩⟩
  obtain rfl : j = i := by have : ((j : Nat) : Int) = (i : Int) := e; omega
  exact ⟨h2, h1, h3⟩
/-- Where the boxes of a line end, if they all fit. -/
theorem LineP.fit {l : List Nat} {g : Nat → Int} {gap sp just : Int} (h : LineP zs l g gap) (hs : 0 ≤ sp ∧ sp ≤ 10000) (hj : 0 ≤ just ∧ just ≤ 3) (hf : (l.map g).sum + gap * ((l.length : Int) - 1) ≤ sp) (ht : t < l.length) : (ofL g zs l gap sp just).getD t 0 + (szL g zs l gap sp).getD t 0 ≤ sp := by
  have h1 := h.l1
  have h8 := h.l8
  obtain ⟨hl, s0, hs2⟩ := h.left hs
  have hlen := h.sz_len hs
  have fl := frontL_len (leftA (szL g zs l gap sp) sp gap) l.length just hl ⟨h1, h8⟩
  have fs := frontL_sum (leftA (szL g zs l gap sp) sp gap) l.length just hl ⟨h1, h8⟩
  have sz0 := fun i (hi : i < l.length) => (h.sz_bd (sp := sp) hs hi)
  have hsum := h.sz_sum hs
  have hspo := h.spo hs
  have e : leftA (szL g zs l gap sp) sp gap = mx 0 (sp - (szL g zs l gap sp).sum - gap * ((l.length : Int) - 1)) := by unfold leftA; rw [hlen]
  have gs0 := sum_ge0 l (fun x hx => (h.g0 x hx).1)
  have nx := fun k (hk : k + 1 < l.length) => h.next (just := just) hs hj hk
  have last : (ofL g zs l gap sp just).getD (l.length - 1) 0 + (szL g zs l gap sp).getD (l.length - 1) 0 ≤ sp := by
    obtain ⟨k, hk⟩ : ∃ k, l.length = k + 1 := ⟨l.length - 1, by omega⟩
    rw [h.of hs hj, offsL_at _ _ _ _ (by omega)]
    rw [hk] at fl fs hlen hspo ⊢
    rw [show k + 1 - 1 = k by omega]
    rw [last_end gap _ _ k fl hlen]
    have ek : ((k + 1 : Nat) : Int) - 1 = (k : Int) := by omega
    rw [hk, ek] at e hf hs2
    rw [ek] at hspo
    have fs2 : (frontL (leftA (szL g zs l gap sp) sp gap) (k + 1) just).sum ≤ leftA (szL g zs l gap sp) sp gap := by
      rw [fs]
      split
      · exact Int.le_refl _
      · split
        · omega
        · split
          · exact Int.le_refl _
          · omega
    unfold mx at e hspo
    omega
  have down : ∀ m k, k + m + 1 = l.length → (ofL g zs l gap sp just).getD k 0 + (szL g zs l gap sp).getD k 0 ≤ sp := fun m => by
    induction m with
    | zero => intro k hk; rw [show l.length - 1 = k by omega] at last; exact last
    | succ m ih =>
      intro k hk
      have a := ih (k + 1) (by omega)
      have b := nx k (by omega)
      have c := (sz0 (k + 1) (by omega)).1
      have d := h.gp.1
      omega
  exact down (l.length - 1 - t) t (by omega)
theorem mx_len {l : List Nat} (h : 1 ≤ l.length) : mx 0 ((l.length : Int) - 1) = (l.length : Int) - 1 := by unfold mx; omega
theorem top_sum {l : List Nat} {g : Nat → Int} {gap : Int} : ∀ t, t ≤ l.length → topL g gap l t = ((l.take t).map g).sum + gap * (t : Int)
  | 0, _ => by simp [topL]
  | t + 1, ht => by
    have ih := top_sum (g := g) (gap := gap) (l := l) t (by omega)
    rw [topL_succ (by omega), ih, List.take_succ_eq_append_getElem (by omega), List.map_append, List.sum_append]
    have e : gap * ((t + 1 : Nat) : Int) = gap * (t : Int) + gap := by rw [Int.natCast_add, Int.mul_add]; simp
    rw [e]
    have e2 : g (l.getD t 0) = g l[t] := by simp [show t < l.length by omega]
    simp only [List.map_cons, List.map_nil, List.sum_cons, List.sum_nil]
    rw [← e2]
    omega
/-- A block's boxes end in it, if they fit. -/
theorem blk_fit {l : List Nat} {g : Nat → Int} {gap sp : Int} (h : LineP zs l g gap) (hf : (l.map g).sum + gap * ((l.length : Int) - 1) ≤ sp) (ht : t < l.length) : topL g gap l t + g (l.getD t 0) ≤ sp := by
  have st : ∀ m k, k + m = l.length → 0 < k → topL g gap l k ≤ topL g gap l l.length := fun m => by
    induction m with
    | zero => intro k hk _; rw [show k = l.length by omega]; exact Int.le_refl _
    | succ m ih =>
      intro k hk h0
      have a := ih (k + 1) (by omega) (by omega)
      have b := topL_succ (g := g) (gap := gap) (l := l) (t := k) (by omega)
      have c := (h.g0 _ (getD_mem_n (t := k) (by omega : k < l.length))).1
      have d := h.gp.1
      omega
  have a := st (l.length - (t + 1)) (t + 1) (by omega) (by omega)
  have b := topL_succ (g := g) (gap := gap) (l := l) (t := t) ht
  have c := top_sum (g := g) (gap := gap) (l := l) l.length (Nat.le_refl _)
  rw [List.take_of_length_le (Nat.le_refl _)] at c
  have e : gap * (l.length : Int) = gap * ((l.length : Int) - 1) + gap := by
    rw [show (l.length : Int) = ((l.length : Int) - 1) + 1 by omega, Int.mul_add]; simp
  omega
/-- Where a box needs no more than it has, the boxes directly in it do not spill. -/
theorem fit_spl (hv : vtB n zs = true) (hW : 0 ≤ W ∧ W ≤ 10000) (hH : 0 ≤ H ∧ H ≤ 10000) (hp : p < n) (h1 : (natL zs n p).1 ≤ (layR zs n W H p).2.2.1) (h2 : (natL zs n p).2 ≤ (layR zs n W H p).2.2.2) (hj : i ∈ kidL zs n p) : splB zs n W H i = false := by
  have hL := link_vt hv
  obtain ⟨him, hip⟩ := kid_mem.1 hj
  obtain ⟨_, hpi⟩ := hL.not_kid him hip
  have h0 : kidL zs n p ≠ [] := fun e => by rw [e] at hj; cases hj
  have hb := lay_bd hv hW hH p hp
  have hpd := pad_bd hv hp
  have hin := inQ_bd hpd hb
  have hju := just_bd hv hp
  obtain ⟨t, ht, et⟩ := List.getElem_of_mem hj
  have gt : (kidL zs n p).getD t 0 = i := by simp [ht, et]
  have hlp := lay_plc (t := t) (W := W) (H := H) hL ht
  rw [gt] at hlp
  have l1 : 1 ≤ (kidL zs n p).length := List.length_pos_iff.2 h0
  unfold splB
  rw [hip, Int.toNat_natCast]
  have nk := nat_kid hv hp hj
  have k0 := kid_kind hv hj
  have g0 := gap_bd hv hp
  obtain ⟨b1, b2, b3, b4⟩ := hb
  have r3 : (inQ zs p (layR zs n W H p)).2.2.1 = mx 0 ((layR zs n W H p).2.2.1 - 2 * zs.getD (p * 9 + 4) 0) := rfl
  have r4 : (inQ zs p (layR zs n W H p)).2.2.2 = mx 0 ((layR zs n W H p).2.2.2 - 2 * zs.getD (p * 9 + 4) 0) := rfl
  have ns := nat_sm hv him
  cases hs : splQ (inQ zs p (layR zs n W H p)) (layR zs n W H i)
  · rfl
  · exfalso
    have hs2 := (splQ_iff (q0 := (inQ zs p (layR zs n W H p)).1) (q1 := (inQ zs p (layR zs n W H p)).2.1) (q2 := (inQ zs p (layR zs n W H p)).2.2.1) (q3 := (inQ zs p (layR zs n W H p)).2.2.2) (c0 := (layR zs n W H i).1) (c1 := (layR zs n W H i).2.1) (c2 := (layR zs n W H i).2.2.1) (c3 := (layR zs n W H i).2.2.2)).1 hs
    rw [hlp] at hs2
    unfold plcL at hs2
    generalize hrr : inQ zs p (layR zs n W H p) = r at *
    by_cases hk : knd zs p = 2
    · rw [if_pos hk, lineL_at ht] at hs2
      dsimp only at hs2
      have P := kids_in (g := fun j => (natL zs n j).1) hv hp h0 (.inl fun _ => rfl)
      have nr := nat_row hv hp hk
      rw [mx_len l1] at nr
      have f := P.fit hin.2.2.1 hju (by rw [r3]; unfold mx; omega) ht
      have o := (P.of_bd hin.2.2.1 hju ht).1
      omega
    · rw [if_neg hk] at hs2
      have nc := nat_col hv hp k0 hk
      rw [mx_len l1] at nc
      have P := kids_in (g := fun j => (natL zs n j).2) hv hp h0 (.inr fun _ => rfl)
      by_cases hk3 : knd zs p = 3
      · rw [if_pos hk3, lineT_at ht] at hs2
        unfold turnQ at hs2
        dsimp only at hs2
        have f := P.fit hin.2.2.2 hju (by rw [r4]; unfold mx; omega) ht
        have o := (P.of_bd hin.2.2.2 hju ht).1
        omega
      · rw [if_neg hk3, blkL_at ht] at hs2
        dsimp only at hs2
        have f := blk_fit (sp := r.2.2.2) P (by rw [r4]; unfold mx; omega) ht
        have o := topL_bd P (Nat.le_of_lt ht)
        omega
/-- What fits on the screen: no box directly in the first one spills. -/
theorem sp_none {j : Nat} (hf : fitB n zs W H = true) (hj : j ∈ kidL zs n 0) : inL (spA n zs W H) j = false := by
  unfold inL
  refine decide_eq_false fun hm => ?_
  unfold spA at hm
  split at hm
  · next hok =>
    obtain ⟨hv, hW, hH⟩ := layOk_iff.1 hok
    obtain ⟨h1, h2, h3⟩ := sp_mem.1 hm
    unfold fitB at hf
    simp only [Bool.and_eq_true, decide_eq_true_eq] at hf
    have n1 := (vtB_iff.1 hv).1
    have e0 := lay_screen (W := W) (H := H) hv
    have := fit_spl (p := 0) hv hW hH (by omega) (by rw [e0]; exact hf.1.2) (by rw [e0]; exact hf.2) hj
    rw [this] at h3; cases h3
  · cases hm
/-- A box spills exactly if it is not inside the inner rectangle around it; all with names for the numbers. -/
theorem sp_ins (hv : vtB n zs = true) (hW : 0 ≤ W ∧ W ≤ 10000) (hH : 0 ≤ H ∧ H ≤ 10000) (h0 : 0 < i) (hi : i < n) : ∃ (p : Nat) (a0 a1 a2 a3 pd r0 r1 r2 r3 c0 c1 c2 c3 : Int), zs.getD (i * 9) 0 = (p : Int) ∧ p < i ∧ layR zs n W H p = (a0, a1, a2, a3) ∧ zs.getD (p * 9 + 4) 0 = pd ∧ layR zs n W H i = (c0, c1, c2, c3) ∧ iOk a0 a1 a2 a3 pd = true ∧ nA a0 a1 a2 a3 pd = r0 ∧ nB a0 a1 a2 a3 pd = r1 ∧ nC a0 a1 a2 a3 pd = r2 ∧ nD a0 a1 a2 a3 pd = r3 ∧ vR r0 r1 r2 r3 = true ∧ vR c0 c1 c2 c3 = true ∧ inL (spTo zs n W H n) i = !(insB c0 c1 c2 c3 r0 r1 r2 r3) := by
  obtain ⟨p, a0, a1, a2, a3, pd, r0, r1, r2, r3, c0, c1, c2, c3, hp, hpl, hlp, hpd, hlk, hva, hpb, hn0, hn1, hn2, hn3, hvr, hvc, hsp⟩ := lay_spl hv hW hH h0 hi
  have ok : iOk a0 a1 a2 a3 pd = true := by
    unfold iOk
    rw [hva, eB_iff.2 hpb, hn0, hn1, hn2, hn3, hvr]; rfl
  obtain ⟨m0, m1, m2, m3⟩ := n_of ok
  refine ⟨p, a0, a1, a2, a3, pd, r0, r1, r2, r3, c0, c1, c2, c3, hp, hpl, hlp, hpd, hlk, ok, m0.trans hn0, m1.trans hn1, m2.trans hn2, m3.trans hn3, hvr, hvc, ?_⟩
  have e := splQ_iff (q0 := r0) (q1 := r1) (q2 := r2) (q3 := r3) (c0 := c0) (c1 := c1) (c2 := c2) (c3 := c3)
  unfold inL insB
  rw [Bool.eq_iff_iff, decide_eq_true_iff, sp_mem, hsp, e]
  simp only [Bool.not_eq_true', decide_eq_false_iff_not]
  omega
theorem sp_zero : inL (spA n zs W H) 0 = false := by
  unfold inL
  refine decide_eq_false fun hm => ?_
  unfold spA at hm
  split at hm
  · obtain ⟨h1, _, _⟩ := sp_mem.1 hm; omega
  · cases hm
end
end Go.Proofs.YtigniaebokknmaaGreat
