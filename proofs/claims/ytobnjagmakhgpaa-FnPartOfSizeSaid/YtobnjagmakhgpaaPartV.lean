/- Plain facts on parts of trees: a part is a tree; the first box with all in it is the whole tree. No condition. -/
import Derived.Test.YtobnjagmakhgpaaPartM
namespace Go.Proofs.Ytobnjagmakhgpaa
open Go.RowKit

/-- A list of boxes is a part of another: m boxes from a on, each Parent in it less by a. -/
structure Shift (zs ys : List Int) (a m : Nat) : Prop where
  root : par ys 0 = -1
  par : ∀ k, 0 < k → k < m → ∃ p : Nat, Go.Proofs.Ytobnjagmakhgpaa.par zs (a + k) = ((a + p : Nat) : Int) ∧ Go.Proofs.Ytobnjagmakhgpaa.par ys k = (p : Int) ∧ p < k
  box : ∀ k j, k < m → 1 ≤ j → j < 9 → ys.getD (k * 9 + j) 0 = zs.getD ((a + k) * 9 + j) 0
  low : Go.Proofs.Ytobnjagmakhgpaa.par zs a < (a : Int)
section
variable {zs ys : List Int} {a m n i k x y p : Nat}
theorem Shift.anc (h : Shift zs ys a m) (hx : x < m) (hy : y < m) : anc ys x y = anc zs (a + x) (a + y) := by
  induction y using Nat.strongRecOn with
  | ind y ih =>
    by_cases e : y = x
    · subst e; rw [anc_self, anc_self]
    · rcases Nat.eq_zero_or_pos y with h0 | h0
      · subst h0
        rw [anc_top (by rw [h.root]; omega) e]
        cases hh : Go.Proofs.Ytobnjagmakhgpaa.anc zs (a + x) (a + 0) with
        | false => rfl
        | true => have := anc_le hh; omega
      · obtain ⟨p, e1, e2, hp⟩ := h.par y h0 hy
        rw [anc_par e2 hp e, anc_par e1 (by omega) (by omega)]
        exact ih p hp (by omega)
theorem Shift.knd (h : Shift zs ys a m) (hx : x < m) : knd ys x = knd zs (a + x) := h.box x 1 hx (by omega) (by omega)
theorem Shift.dep (h : Shift zs ys a m) (hx : x < m) : dep ys x ≤ dep zs (a + x) := by
  induction x using Nat.strongRecOn with
  | ind x ih =>
    rcases Nat.eq_zero_or_pos x with h0 | h0
    · subst h0; rw [dep_top (by rw [h.root]; omega)]; omega
    · obtain ⟨p, e1, e2, hp⟩ := h.par x h0 hx
      rw [dep_par e2 hp, dep_par e1 (by omega)]
      have := ih p hp (by omega)
      omega
theorem Shift.kids (h : Shift zs ys a m) (hi : i ≤ m) : (kidL ys i p).length ≤ (kidL zs (a + i) (a + p)).length := by
  induction i with
  | zero => simp [kidL]
  | succ i ih =>
    have ih' := ih (by omega)
    rw [kid_succ, show a + (i + 1) = (a + i) + 1 by omega, kid_succ]
    rcases Nat.eq_zero_or_pos i with h0 | h0
    · subst h0
      rw [if_neg (by rw [h.root]; omega)]
      split
      · rw [List.length_append]; exact Nat.le_trans ih' (Nat.le_add_right _ _)
      · exact ih'
    · obtain ⟨q, e1, e2, hq⟩ := h.par i h0 (by omega)
      by_cases e : q = p
      · subst e
        rw [if_pos e2, if_pos e1, List.length_append, List.length_append]
        simpa using ih'
      · rw [if_neg (by rw [e2]; omega), if_neg (by rw [e1]; omega)]
        exact ih'
theorem Shift.vt (h : Shift zs ys a m) (hv : vtB n zs = true) (hm : 1 ≤ m) (ham : a + m ≤ n) : vtB m ys = true := by
  obtain ⟨h1, h2⟩ := vtB_iff.1 hv
  refine vtB_iff.2 ⟨by omega, fun k hk => ⟨?_, ?_⟩⟩
  · have hb := (h2 (a + k) (by omega)).1
    unfold BoxP at hb ⊢
    rw [h.knd hk, h.box k 2 hk (by omega) (by omega), h.box k 3 hk (by omega) (by omega), h.box k 4 hk (by omega) (by omega), h.box k 5 hk (by omega) (by omega), h.box k 6 hk (by omega) (by omega), h.box k 7 hk (by omega) (by omega), h.box k 8 hk (by omega) (by omega)]
    exact hb
  · unfold PlaceP
    rcases Nat.eq_zero_or_pos k with h0 | h0
    · subst h0; rw [if_pos rfl]; exact h.root
    · rw [if_neg (by omega)]
      obtain ⟨p, e1, e2, hp⟩ := h.par k h0 hk
      obtain ⟨q, e3, _, g1, g2, g3, g4⟩ := (h2 (a + k) (by omega)).2.pos (by omega)
      obtain rfl : q = a + p := by omega
      have hd := h.dep (x := p) (by omega)
      have hkd := h.kids (i := k) (p := p) (by omega)
      rw [e2, Int.toNat_natCast]
      refine ⟨⟨by omega, hp⟩, ?_, ?_, by omega, by omega⟩
      · rw [h.anc (by omega) (by omega), show a + (k - 1) = a + k - 1 by omega]; exact g1
      · rw [h.knd (by omega)]; exact g2
theorem part_shift (hv : vtB n zs = true) (hz : zs.length = n * 9) (ha : a < n) : Shift zs (partL zs a (en zs n a - a)) a (en zs n a - a) := by
  have eb := en_bd (zs := zs) ha
  obtain ⟨m, hm⟩ : ∃ m, en zs n a - a = m := ⟨_, rfl⟩
  have hl := midL_len (zs := zs) (a := a) (m := m) hz (by omega)
  rw [hm]
  have at_ : ∀ i, i < m * 9 → (partL zs a m).getD i 0 = if 0 = i then -1 else if i % 9 = 0 then zs.getD (a * 9 + i) 0 - (a : Int) else zs.getD (a * 9 + i) 0 := fun i hi => by
    unfold partL
    rw [getD_set _ _ _ _ (by rw [parF_len, hl]; exact hi), parF_at (by rw [hl]; exact hi), midL_at hi]
  refine ⟨?_, fun k h0 hk => ?_, fun k j hk h1 h9 => ?_, ?_⟩
  · unfold par; rw [at_ 0 (by omega), if_pos rfl]
  · obtain ⟨p, e, hp, hq⟩ := in_par hv ha (show a + k < en zs n a by omega) (by omega)
    refine ⟨p - a, by rw [e]; congr 1; omega, ?_, by omega⟩
    show (partL zs a m).getD (k * 9) 0 = _
    rw [at_ (k * 9) (by omega), if_neg (by omega), if_pos (by omega), show a * 9 + k * 9 = (a + k) * 9 by omega, show zs.getD ((a + k) * 9) 0 = (p : Int) from e]
    omega
  · rw [at_ (k * 9 + j) (by omega), if_neg (by omega), if_neg (by omega)]
    congr 1; omega
  · rcases Nat.eq_zero_or_pos a with h0 | h0
    · subst h0; rw [par_root hv ha]; omega
    · obtain ⟨p, e, hp⟩ := par_bd hv ha h0
      rw [e]; omega
theorem part_valid (hv : vtB n zs = true) (hz : zs.length = n * 9) (ha : a < n) : vtB (en zs n a - a) (partA n zs (a : Int)) = true := by
  have eb := en_bd (zs := zs) ha
  unfold partA
  rw [if_pos (nodeOk_iff.2 ⟨hv, a, rfl, ha⟩), Int.toNat_natCast]
  exact (part_shift hv hz ha).vt hv (by omega) (by omega)
theorem part_at (hv : vtB n zs = true) (ha : a < n) : partA n zs (a : Int) = partL zs a (en zs n a - a) := by
  unfold partA
  rw [if_pos (nodeOk_iff.2 ⟨hv, a, rfl, ha⟩), Int.toNat_natCast]
theorem part_all (hv : vtB n zs = true) (hz : zs.length = n * 9) : partA n zs ((0 : Nat) : Int) = zs := by
  have hn := (vtB_iff.1 hv).1
  rw [part_at hv (by omega), en_root (link_vt hv) (by omega), Nat.sub_zero]
  have hl := midL_len (zs := zs) (a := 0) (m := n) hz (by omega)
  apply ext_get
  · rw [partL_len hz (by omega), hz]
  · intro i hi
    rw [partL_len hz (by omega)] at hi
    unfold partL
    rw [getD_set _ _ _ _ (by rw [parF_len, hl]; exact hi), parF_at (by rw [hl]; exact hi), midL_at hi]
    by_cases h0 : 0 = i
    · subst h0
      rw [if_pos rfl]
      have := par_root hv (by omega)
      unfold par at this
      simpa using this.symm
    · rw [if_neg h0]
      split <;> simp
end
end Go.Proofs.Ytobnjagmakhgpaa
