/- Plain facts on a task pushed: where it goes, and that what comes of it is a queue again. No condition. -/
import Derived.Test.YtpkombjmbpgdnaaHeapA
import Derived.Test.YtpkombjmbpgdnaaInsTask
namespace Go.Proofs.Ytpkombjmbpgdnaa
open Go.RowKit

/-- Where a task with the number d goes. -/
def pl (zs : List Int) (d : Int) : Nat → Nat
  | 0 => 0
  | k + 1 => if tid zs k < d then k + 1 else pl zs d k
def IsPl (zs : List Int) (n : Nat) (d : Int) (p : Nat) : Prop := p ≤ n ∧ (∀ k, k < p → tid zs k < d) ∧ ∀ k, p ≤ k → k < n → d ≤ tid zs k
/-- A task with this number is there. -/
def fnd (zs : List Int) (n : Nat) (d : Int) : Bool := decide (pl zs d n < n ∧ tid zs (pl zs d n) = d)
/-- The task that is put there. -/
def psT (zs : List Int) (n : Nat) (d r : Int) : Tk := if fnd zs n d = true then (d, min (trk zs (pl zs d n)) r, tag zs (pl zs d n)) else (d, r, 0)
/-- Behind which the others follow. -/
def pn (zs : List Int) (n : Nat) (d : Int) : Nat := if fnd zs n d = true then pl zs d n + 1 else pl zs d n
def psL (zs : List Int) (n : Nat) (d r : Int) : List Tk := (tks zs n).take (pl zs d n) ++ [psT zs n d r] ++ (tks zs n).drop (pn zs n d)
def psV (n : Nat) (zs : List Int) (d r : Int) : Bool := vtk n zs && (decide (0 ≤ d ∧ d ≤ 99) && decide (0 ≤ r ∧ r ≤ 50))
def psOk (n : Nat) (zs : List Int) (d r : Int) : Bool := psV n zs d r && (fnd zs n d || decide (n < 10))
def psA (n : Nat) (zs : List Int) (d r : Int) : List Int := if psOk n zs d r = true then flL (psL zs n d r) else []
section
variable {zs : List Int} {n k p q : Nat} {d r : Int} {t : Tk} {l : List Tk}
theorem isPl_eq (h : IsPl zs n d p) (h' : IsPl zs n d q) : p = q := by
  rcases Nat.lt_trichotomy p q with e | e | e
  · have := h'.2.1 p e; have := h.2.2 p (Nat.le_refl _) (by have := h'.1; omega); omega
  · exact e
  · have := h.2.1 q e; have := h'.2.2 q (Nat.le_refl _) (by have := h.1; omega); omega
theorem pl_is : ∀ n, (∀ k, k < n → ∀ j, j < k → tid zs j < tid zs k) → IsPl zs n d (pl zs d n)
  | 0, _ => ⟨Nat.le_refl _, fun k h => absurd h (Nat.not_lt_zero k), fun k _ h => absurd h (Nat.not_lt_zero k)⟩
  | n + 1, ha => by
    obtain ⟨h1, h2, h3⟩ := pl_is n fun k hk j hj => ha k (by omega) j hj
    show IsPl zs (n + 1) d (if tid zs n < d then n + 1 else pl zs d n)
    split
    · next h =>
      refine ⟨Nat.le_refl _, fun k hk => ?_, fun k h1 h2 => by omega⟩
      by_cases e : k = n
      · subst e; exact h
      · have := ha n (by omega) k (by omega); omega
    · next h =>
      refine ⟨by omega, h2, fun k hk1 hk2 => ?_⟩
      by_cases e : k = n
      · subst e; omega
      · exact h3 k hk1 (by omega)
theorem pl_of (h : vtk n zs = true) : IsPl zs n d (pl zs d n) := pl_is n fun k hk => ((vtk_at h).2 k hk).2
theorem fnd_iff : fnd zs n d = true ↔ pl zs d n < n ∧ tid zs (pl zs d n) = d := by unfold fnd; exact decide_eq_true_iff
/-- The numbers behind the place are greater. -/
theorem pn_gt (h : vtk n zs = true) (hk : k < n) : d < tid zs k ↔ pn zs n d ≤ k := by
  obtain ⟨h1, h2, h3⟩ := pl_of (d := d) h
  unfold pn
  split
  · next hf =>
    obtain ⟨f1, f2⟩ := fnd_iff.1 hf
    constructor
    · intro hd
      rcases Nat.lt_or_ge k (pl zs d n) with e | e
      · have := h2 k e; omega
      · by_cases e2 : k = pl zs d n
        · rw [e2] at hd; omega
        · omega
    · intro hd
      have := ((vtk_at h).2 k hk).2 (pl zs d n) (by omega)
      omega
  · next hf =>
    constructor
    · intro hd
      rcases Nat.lt_or_ge k (pl zs d n) with e | e
      · have := h2 k e; omega
      · exact e
    · intro hd
      have h4 := h3 k hd hk
      by_cases e : tid zs k = d
      · exfalso
        apply hf
        rw [fnd_iff]
        rcases Nat.lt_or_ge (pl zs d n) k with e2 | e2
        · have := ((vtk_at h).2 k hk).2 (pl zs d n) e2
          have := h3 (pl zs d n) (Nat.le_refl _) (by omega)
          omega
        · obtain rfl : pl zs d n = k := by omega
          exact ⟨hk, e⟩
      · omega
theorem pl_lt (h : vtk n zs = true) (hk : k < n) : tid zs k < d ↔ k < pl zs d n := by
  obtain ⟨h1, h2, h3⟩ := pl_of (d := d) h
  constructor
  · intro hd
    rcases Nat.lt_or_ge k (pl zs d n) with e | e
    · exact e
    · have := h3 k e hk; omega
  · exact h2 k
theorem pl_eq (h : vtk n zs = true) (hk : k < n) : tid zs k = d ↔ fnd zs n d = true ∧ k = pl zs d n := by
  have h1 := pl_lt (d := d) h hk
  have h2 := pn_gt (d := d) h hk
  unfold pn at h2
  constructor
  · intro e
    by_cases hf : fnd zs n d = true
    · rw [if_pos hf] at h2
      exact ⟨hf, by omega⟩
    · rw [if_neg hf] at h2
      omega
  · rintro ⟨hf, e⟩
    rw [e]; exact (fnd_iff.1 hf).2
theorem pn_le (h : vtk n zs = true) : pl zs d n ≤ pn zs n d ∧ pn zs n d ≤ n ∧ pn zs n d ≤ pl zs d n + 1 := by
  have := (pl_of (d := d) h).1
  unfold pn
  split
  · next hf => have := (fnd_iff.1 hf).1; omega
  · omega
theorem psL_len (h : vtk n zs = true) : (psL zs n d r).length = if fnd zs n d = true then n else n + 1 := by
  have h1 := (pl_of (d := d) h).1
  have h2 := pn_le (d := d) h
  unfold psL
  simp only [List.length_append, List.length_take, List.length_drop, tks_len, List.length_singleton]
  unfold pn at *
  split
  · next hf => rw [if_pos hf] at h2; omega
  · next hf => rw [if_neg hf] at h2; omega
theorem psV_iff : psV n zs d r = true ↔ vtk n zs = true ∧ (0 ≤ d ∧ d ≤ 99) ∧ 0 ≤ r ∧ r ≤ 50 := by
  unfold psV; rw [Bool.and_eq_true, Bool.and_eq_true, decide_eq_true_eq, decide_eq_true_eq]
theorem psT_id : (psT zs n d r).1 = d := by unfold psT; split <;> rfl
theorem psT_ok (h : psV n zs d r = true) : VT (psT zs n d r) := by
  obtain ⟨h1, h2, h3⟩ := psV_iff.1 h
  unfold psT
  split
  · next hf =>
    have hp := (fnd_iff.1 hf).1
    obtain ⟨_, b, c⟩ := ((vtk_at h1).2 _ hp).1
    have b' : 0 ≤ trk zs (pl zs d n) ∧ trk zs (pl zs d n) ≤ 50 := b
    exact ⟨h2, by show 0 ≤ min (trk zs (pl zs d n)) r ∧ min (trk zs (pl zs d n)) r ≤ 50; omega, c⟩
  · exact ⟨h2, h3, by show (0 : Int) ≤ 0 ∧ (0 : Int) ≤ 20; omega⟩
theorem psL_asc (h : psV n zs d r = true) : Asc (psL zs n d r) := by
  obtain ⟨h1, _⟩ := psV_iff.1 h
  have ha := tks_asc h1
  have lo : ∀ u, u ∈ (tks zs n).take (pl zs d n) → u.1 < d := fun u hu => by
    obtain ⟨k, hk, e⟩ := List.mem_iff_getElem.1 hu
    rw [List.length_take, tks_len] at hk
    rw [← e, List.getElem_take]
    have : (tks zs n)[k]'(by rw [tks_len]; omega) = tkOf zs k := by unfold tks; simp
    rw [this]
    exact (pl_lt (d := d) h1 (k := k) (by omega)).2 (by omega)
  have hi : ∀ u, u ∈ (tks zs n).drop (pn zs n d) → d < u.1 := fun u hu => by
    obtain ⟨k, hk, e⟩ := List.mem_iff_getElem.1 hu
    rw [List.length_drop, tks_len] at hk
    rw [← e, List.getElem_drop]
    have : (tks zs n)[pn zs n d + k]'(by rw [tks_len]; omega) = tkOf zs (pn zs n d + k) := by unfold tks; simp
    rw [this]
    exact (pn_gt (d := d) h1 (k := pn zs n d + k) (by omega)).2 (by omega)
  unfold Asc psL
  rw [List.pairwise_append, List.pairwise_append]
  refine ⟨⟨ha.sublist (List.take_sublist _ _), List.pairwise_singleton _ _, fun a hA b hb => ?_⟩, ha.sublist (List.drop_sublist _ _), fun a hA b hb => ?_⟩
  · rw [List.mem_singleton.1 hb, psT_id]; exact lo a hA
  · rcases List.mem_append.1 hA with e | e
    · have := lo a e; have := hi b hb; omega
    · rw [List.mem_singleton.1 e, psT_id]; exact hi b hb
theorem psL_vt (h : psV n zs d r = true) : ∀ u, u ∈ psL zs n d r → VT u := fun u hu => by
  obtain ⟨h1, _⟩ := psV_iff.1 h
  have all : ∀ u, u ∈ tks zs n → VT u := fun u hu => by
    obtain ⟨k, hk, rfl⟩ := tks_mem.1 hu
    exact ((vtk_at h1).2 k hk).1
  unfold psL at hu
  rcases List.mem_append.1 hu with e | e
  · rcases List.mem_append.1 e with e | e
    · exact all u (List.mem_of_mem_take e)
    · rw [List.mem_singleton.1 e]; exact psT_ok h
  · exact all u (List.mem_of_mem_drop e)
/-- What is made is a queue, if there is room. -/
theorem psL_valid (h : psV n zs d r = true) : vtk (psL zs n d r).length (flL (psL zs n d r)) = (fnd zs n d || decide (n < 10)) := by
  have hl := psL_len (d := d) (r := r) (psV_iff.1 h).1
  have n10 := (vtk_at (psV_iff.1 h).1).1
  by_cases h10 : (psL zs n d r).length ≤ 10
  · rw [vtk_flL h10 (psL_vt h) (psL_asc h)]
    by_cases hf : fnd zs n d = true
    · rw [hf]; rfl
    · rw [if_neg hf] at hl
      rw [decide_eq_true (show n < 10 by omega), Bool.or_true]
  · have e : vtk (psL zs n d r).length (flL (psL zs n d r)) = false := by unfold vtk; rw [decide_eq_false (show ¬ (((psL zs n d r).length : Nat) : Int) ≤ 10 by omega), Bool.false_and]
    rw [e]
    by_cases hf : fnd zs n d = true
    · rw [if_pos hf] at hl; omega
    · rw [if_neg hf] at hl
      rw [decide_eq_false (show ¬ n < 10 by omega)]
      cases hq : fnd zs n d
      · rfl
      · exact absurd hq hf
theorem flL_app (a b : List Tk) : flL (a ++ b) = flL a ++ flL b := by unfold flL; simp
theorem flL_tks (h : zs.length = n * 3) : flL (tks zs n) = zs := by
  apply ext_flat
  · rw [show flL (tks zs n) = flatF (tkOf zs) n from flL_range (tkOf zs) n, flatF_len, h]
  · intro i hi
    rw [show flL (tks zs n) = flatF (tkOf zs) n from flL_range (tkOf zs) n] at hi ⊢
    rw [flatF_len] at hi
    obtain ⟨a0, a1, a2⟩ := flatF_at (tkOf zs) (show i / 3 < n by omega)
    have hc : i = i / 3 * 3 ∨ i = i / 3 * 3 + 1 ∨ i = i / 3 * 3 + 2 := by omega
    rcases hc with e | e | e
    · rw [e, a0]; rfl
    · rw [e, a1]; rfl
    · rw [e, a2]; rfl
theorem flL_take (h : zs.length = n * 3) (hp : p ≤ n) : flL ((tks zs n).take p) = zs.take (p * 3) ∧ flL ((tks zs n).drop p) = zs.drop (p * 3) := by
  have e : flL ((tks zs n).take p) ++ flL ((tks zs n).drop p) = zs := by rw [← flL_app, List.take_append_drop, flL_tks h]
  have l1 : (flL ((tks zs n).take p)).length = p * 3 := by rw [flL_len, List.length_take, tks_len]; omega
  generalize flL ((tks zs n).take p) = a at *
  generalize flL ((tks zs n).drop p) = b at *
  subst e
  constructor
  · rw [List.take_append_of_le_length (by omega), List.take_of_length_le (by omega)]
  · rw [List.drop_append_of_le_length (by omega), List.drop_of_length_le (by omega), List.nil_append]
/-- Pushed anew: the task is put in. -/
theorem ps_new (h : zs.length = n * 3) (hv : vtk n zs = true) (hf : fnd zs n d = false) : flL (psL zs n d r) = insTask zs (pl zs d n) [d, r, 0] := by
  have hp := (pl_of (d := d) hv).1
  unfold psL pn psT
  rw [if_neg (by rw [hf]; simp), if_neg (by rw [hf]; simp), flL_app, flL_app, (flL_take h hp).1, (flL_take h hp).2]
  rfl
/-- Pushed again: its rank changes. -/
theorem ps_old (h : zs.length = n * 3) (hf : fnd zs n d = true) : flL (psL zs n d r) = zs.set (pl zs d n * 3 + 1) (min (trk zs (pl zs d n)) r) := by
  obtain ⟨hp, hd⟩ := fnd_iff.1 hf
  generalize hq : pl zs d n = q at *
  unfold psL pn psT
  rw [if_pos hf, if_pos hf, hq, flL_app, flL_app, (flL_take h (Nat.le_of_lt hp)).1, (flL_take h (show q + 1 ≤ n by omega)).2]
  have e1 : zs = zs.take (q * 3) ++ ([d, trk zs q, tag zs q] ++ zs.drop ((q + 1) * 3)) := by
    have e2 : zs.drop (q * 3) = [d, trk zs q, tag zs q] ++ zs.drop ((q + 1) * 3) := by
      have g0 : q * 3 < zs.length := by omega
      rw [List.drop_eq_getElem_cons g0, List.drop_eq_getElem_cons (show q * 3 + 1 < zs.length by omega), List.drop_eq_getElem_cons (show q * 3 + 1 + 1 < zs.length by omega)]
      have t0 : zs[q * 3] = d := by rw [← hd]; unfold tid; simp [g0]
      have t1 : zs[q * 3 + 1] = trk zs q := by unfold trk; simp [show q * 3 + 1 < zs.length by omega]
      have t2 : zs[q * 3 + 1 + 1]'(by omega) = tag zs q := by unfold tag; simp [show q * 3 + 2 < zs.length by omega]
      rw [t0, t1, t2, show (q + 1) * 3 = q * 3 + 1 + 1 + 1 by omega]
      rfl
    rw [← e2, List.take_append_drop]
  have l1 : (zs.take (q * 3)).length = q * 3 := by rw [List.length_take]; omega
  generalize min (trk zs q) r = v
  have e3 : zs.set (q * 3 + 1) v = (zs.take (q * 3) ++ ([d, trk zs q, tag zs q] ++ zs.drop ((q + 1) * 3))).set (q * 3 + 1) v := congrArg (fun z => z.set (q * 3 + 1) v) e1
  rw [e3, List.set_append_right _ _ (by omega), l1, show q * 3 + 1 - q * 3 = 1 by omega, List.append_assoc]
  rfl
end
end Go.Proofs.Ytpkombjmbpgdnaa
