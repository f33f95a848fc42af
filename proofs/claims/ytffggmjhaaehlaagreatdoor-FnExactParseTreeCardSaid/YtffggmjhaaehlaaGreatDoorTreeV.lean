/- Plain facts: when the boxes of a tree are valid, told box by box and told of the whole tree; the boxes directly in a box as a chain. No condition. -/
import Derived.Test.YtffggmjhaaehlaaGreatDoorTreeM
namespace Go.Proofs.YtffggmjhaaehlaaGreatDoor
open Go.RowKit

/-- A box is right by itself, but for its place. -/
def BoxP (zs : List Int) (i : Nat) : Prop :=
  (0 ≤ knd zs i ∧ knd zs i ≤ 3) ∧ (0 ≤ zs.getD (i * 9 + 2) 0 ∧ zs.getD (i * 9 + 2) 0 ≤ if knd zs i = 0 then 100 else 0) ∧ (0 ≤ zs.getD (i * 9 + 3) 0 ∧ zs.getD (i * 9 + 3) 0 ≤ if knd zs i = 0 then 100 else 0) ∧
    (0 ≤ zs.getD (i * 9 + 4) 0 ∧ zs.getD (i * 9 + 4) 0 ≤ 50) ∧ (0 ≤ zs.getD (i * 9 + 5) 0 ∧ zs.getD (i * 9 + 5) 0 ≤ 50) ∧ (0 ≤ zs.getD (i * 9 + 6) 0 ∧ zs.getD (i * 9 + 6) 0 ≤ 10) ∧ (0 ≤ zs.getD (i * 9 + 7) 0 ∧ zs.getD (i * 9 + 7) 0 ≤ 10) ∧ (0 ≤ zs.getD (i * 9 + 8) 0 ∧ zs.getD (i * 9 + 8) 0 ≤ 3)
instance (zs : List Int) (i : Nat) : Decidable (BoxP zs i) := by unfold BoxP; infer_instance
/-- A box is in a place that is right, behind those before it. -/
def PlaceP (zs : List Int) (i : Nat) : Prop :=
  if i = 0 then par zs 0 = -1 else (0 ≤ par zs i ∧ (par zs i).toNat < i) ∧ anc zs (par zs i).toNat (i - 1) = true ∧ knd zs (par zs i).toNat ≠ 0 ∧ (kidL zs i (par zs i).toNat).length < 8 ∧ dep zs (par zs i).toNat < 5
instance (zs : List Int) (i : Nat) : Decidable (PlaceP zs i) := by unfold PlaceP; infer_instance
def okB (zs : List Int) (i : Nat) : Bool := decide (BoxP zs i) && decide (PlaceP zs i)
def vtB (n : Nat) (zs : List Int) : Bool := decide (1 ≤ (n : Int) ∧ (n : Int) ≤ 16) && decide (∀ i, i < n → okB zs i = true)
/-- As the reference tells it, of one box of the whole tree. -/
def SokP (n : Nat) (zs : List Int) (i : Nat) : Prop :=
  BoxP zs i ∧ (((min i 1 : Nat) : Int) - 1 ≤ par zs i ∧ par zs i ≤ (i : Int) - 1) ∧ (0 < i → knd zs (par zs i).toNat ≠ 0 ∧ (kidL zs n (par zs i).toNat).length ≤ 8 ∧ dep zs i ≤ 5)
section
variable {zs : List Int} {a i j k n p : Nat}
theorem okB_iff : okB zs i = true ↔ BoxP zs i ∧ PlaceP zs i := by unfold okB; rw [Bool.and_eq_true, decide_eq_true_eq, decide_eq_true_eq]
theorem vtB_iff : vtB n zs = true ↔ (1 ≤ n ∧ n ≤ 16) ∧ ∀ i, i < n → BoxP zs i ∧ PlaceP zs i := by
  unfold vtB
  rw [Bool.and_eq_true, decide_eq_true_eq, decide_eq_true_eq]
  constructor
  · rintro ⟨h1, h2⟩; exact ⟨by omega, fun i hi => okB_iff.1 (h2 i hi)⟩
  · rintro ⟨h1, h2⟩; exact ⟨by omega, fun i hi => okB_iff.2 (h2 i hi)⟩
theorem PlaceP.pos (h : PlaceP zs i) (hi : 0 < i) : ∃ p : Nat, par zs i = (p : Int) ∧ p < i ∧ anc zs p (i - 1) = true ∧ knd zs p ≠ 0 ∧ (kidL zs i p).length < 8 ∧ dep zs p < 5 := by
  unfold PlaceP at h
  rw [if_neg (by omega)] at h
  obtain ⟨⟨h1, h2⟩, h3⟩ := h
  exact ⟨(par zs i).toNat, by omega, h2, h3⟩
theorem PlaceP.zero (h : PlaceP zs 0) : par zs 0 = -1 := by unfold PlaceP at h; simpa using h
theorem link_of (h : ∀ i, i < k → PlaceP zs i) : Link zs k :=
  ⟨fun h0 => (h 0 h0).zero, fun i h0 hi => by obtain ⟨p, e, hp, hq, _⟩ := (h i hi).pos h0; exact ⟨p, e, hp, hq⟩⟩
theorem link_vt (h : vtB n zs = true) : Link zs n := link_of fun i hi => ((vtB_iff.1 h).2 i hi).2
/-- The last box directly in a box: behind it there are as many as it and those before it. -/
theorem kid_last (h : kidL zs k a ≠ []) : ∃ l, l < k ∧ par zs l = (a : Int) ∧ (kidL zs k a).length = (kidL zs l a).length + 1 := by
  induction k with
  | zero => exact absurd rfl h
  | succ k ih =>
    rw [kid_succ] at h ⊢
    by_cases e : par zs k = (a : Int)
    · rw [if_pos e] at h ⊢
      exact ⟨k, by omega, e, by simp⟩
    · rw [if_neg e] at h ⊢
      obtain ⟨l, h1, h2, h3⟩ := ih h
      exact ⟨l, by omega, h2, h3⟩
theorem vt_spec : vtB n zs = true ↔ (∀ i, i < n → SokP n zs i) ∧ (1 ≤ n ∧ n ≤ 16) ∧ ∀ i, 0 < i → i < n → anc zs (par zs i).toNat (i - 1) = true := by
  rw [vtB_iff]
  constructor
  · rintro ⟨h1, h2⟩
    refine ⟨fun i hi => ⟨(h2 i hi).1, ?_, fun h0 => ?_⟩, h1, fun i h0 hi => ?_⟩
    · rcases Nat.eq_zero_or_pos i with h0 | h0
      · subst h0; have := (h2 0 hi).2.zero; omega
      · obtain ⟨p, e, hp, _⟩ := (h2 i hi).2.pos h0; omega
    · obtain ⟨p, e, hp, hq, hk, hl, hd⟩ := (h2 i hi).2.pos h0
      have ep : (par zs i).toNat = p := by omega
      rw [ep, dep_par e hp]
      refine ⟨hk, ?_, by omega⟩
      have hne : kidL zs n p ≠ [] := fun hnil => by have : i ∈ kidL zs n p := kid_mem.2 ⟨hi, e⟩; rw [hnil] at this; cases this
      obtain ⟨l, l1, l2, l3⟩ := kid_last hne
      obtain ⟨_, hl0⟩ := (link_of (k := n) fun i hi => (h2 i hi).2).not_kid l1 l2
      obtain ⟨q, f, _, _, _, fl, _⟩ := (h2 l l1).2.pos (by omega)
      have : q = p := by omega
      subst this
      omega
    · obtain ⟨p, e, hp, hq, _⟩ := (h2 i hi).2.pos h0
      have ep : (par zs i).toNat = p := by omega
      rw [ep]; exact hq
  · rintro ⟨h1, h2, h3⟩
    refine ⟨h2, fun i hi => ⟨(h1 i hi).1, ?_⟩⟩
    unfold PlaceP
    obtain ⟨_, hr, hp⟩ := h1 i hi
    by_cases h0 : i = 0
    · subst h0; rw [if_pos rfl]; omega
    · rw [if_neg h0]
      obtain ⟨a1, a2, a3⟩ := hp (by omega)
      have e : par zs i = (((par zs i).toNat : Nat) : Int) := by omega
      have hpi : (par zs i).toNat < i := by omega
      refine ⟨⟨by omega, hpi⟩, h3 i (by omega) hi, a1, ?_, ?_⟩
      · have h4 := kid_mono (zs := zs) (a := (par zs i).toNat) (show i + 1 ≤ n by omega)
        rw [kid_succ, if_pos e, List.length_append] at h4
        simp at h4
        omega
      · rw [dep_par e hpi] at a3; omega
/-- Who is first, last and next, as pointers tell it, when k boxes are linked. -/
structure Shape (zs : List Int) (k : Nat) (fi la ne : Nat → Option Nat) : Prop where
  fi : ∀ a, a < k → fi a = (kidL zs k a).head?
  la : ∀ a, a < k → la a = (kidL zs k a).getLast?
  ne : ∀ a done j rest, a < k → kidL zs k a = done ++ j :: rest → ne j = rest.head?
theorem Shape.nil (zs : List Int) (fi la ne : Nat → Option Nat) : Shape zs 0 fi la ne := ⟨fun a h => absurd h (by omega), fun a h => absurd h (by omega), fun a _ _ _ h => absurd h (by omega)⟩
def upd (f : Nat → Option Nat) (i : Nat) (v : Option Nat) : Nat → Option Nat := fun j => if j = i then v else f j
theorem upd_same (f : Nat → Option Nat) (i : Nat) (v : Option Nat) : upd f i v i = v := if_pos rfl
theorem upd_other {f : Nat → Option Nat} {i j : Nat} {v : Option Nat} (h : j ≠ i) : upd f i v j = f j := if_neg h
theorem kid_self (h : Link zs k) : kidL zs k k = [] := List.filter_eq_nil_iff.2 fun i hi => by
  have hi := List.mem_range.1 hi
  have : ¬ par zs i = (k : Int) := fun e => by have := h.not_kid hi e; omega
  simpa using this
/-- The first box is linked. -/
theorem Shape.root {fi la ne : Nat → Option Nat} (h0 : par zs 0 = -1) (f0 : fi 0 = none) (l0 : la 0 = none) : Shape zs 1 fi la ne := by
  have hk : kidL zs 1 0 = [] := List.filter_eq_nil_iff.2 fun i hi => by
    have hi := List.mem_range.1 hi
    obtain rfl : i = 0 := by omega
    rw [h0]; decide
  refine ⟨fun a ha => ?_, fun a ha => ?_, fun a done j rest ha e => ?_⟩
  · obtain rfl : a = 0 := by omega
    rw [hk, f0]; rfl
  · obtain rfl : a = 0 := by omega
    rw [hk, l0]; rfl
  · obtain rfl : a = 0 := by omega
    rw [hk] at e; simp at e
/-- One box more is linked, as the first one directly in its box. -/
theorem Shape.first {fi la ne : Nat → Option Nat} (h : Shape zs k fi la ne) (hL : Link zs k) (hp : par zs k = (p : Int)) (hpk : p < k) (h0 : la p = none) (fk : fi k = none) (lk : la k = none) (nk : ne k = none) :
    Shape zs (k + 1) (upd fi p (some k)) (upd la p (some k)) ne := by
  have hnil : kidL zs k p = [] := by rw [h.la p hpk] at h0; exact List.getLast?_eq_none_iff.1 h0
  have hks : kidL zs (k + 1) k = [] := by rw [kid_succ, if_neg (by omega), kid_self hL]
  have hkp : kidL zs (k + 1) p = [k] := by rw [kid_succ, if_pos hp, hnil]; rfl
  have hko : ∀ a, a ≠ p → kidL zs (k + 1) a = kidL zs k a := fun a ha => by rw [kid_succ, if_neg (by omega)]
  refine ⟨fun a ha => ?_, fun a ha => ?_, fun a done j rest ha e => ?_⟩
  · by_cases e : a = p
    · subst e; rw [upd_same, hkp]; rfl
    · rw [upd_other e]
      by_cases e2 : a = k
      · subst e2; rw [hks, fk]; rfl
      · rw [hko a e]; exact h.fi a (by omega)
  · by_cases e : a = p
    · subst e; rw [upd_same, hkp]; rfl
    · rw [upd_other e]
      by_cases e2 : a = k
      · subst e2; rw [hks, lk]; rfl
      · rw [hko a e]; exact h.la a (by omega)
  · by_cases e1 : a = p
    · subst e1
      rw [hkp] at e
      cases done with
      | nil => simp at e; obtain ⟨rfl, rfl⟩ := e; exact nk
      | cons d done => simp at e
    · by_cases e2 : a = k
      · subst e2; rw [hks] at e; simp at e
      · rw [hko a e1] at e; exact h.ne a done j rest (by omega) e
/-- One box more is linked, behind the last one directly in its box. -/
theorem Shape.next {fi la ne : Nat → Option Nat} (h : Shape zs k fi la ne) (hL : Link zs k) (hp : par zs k = (p : Int)) (hpk : p < k) {l : Nat} (h0 : la p = some l) (fk : fi k = none) (lk : la k = none) (nk : ne k = none) :
    Shape zs (k + 1) fi (upd la p (some k)) (upd ne l (some k)) ∧ l < k := by
  obtain ⟨ls, hls⟩ : ∃ ls, kidL zs k p = ls ++ [l] := by rw [h.la p hpk] at h0; exact List.getLast?_eq_some_iff.1 h0
  have hlp := kid_mem.1 (show l ∈ kidL zs k p by rw [hls]; simp)
  have hks : kidL zs (k + 1) k = [] := by rw [kid_succ, if_neg (by omega), kid_self hL]
  have hkp : kidL zs (k + 1) p = ls ++ [l] ++ [k] := by rw [kid_succ, if_pos hp, hls]
  have hko : ∀ a, a ≠ p → kidL zs (k + 1) a = kidL zs k a := fun a ha => by rw [kid_succ, if_neg (by omega)]
  refine ⟨⟨fun a ha => ?_, fun a ha => ?_, fun a done j rest ha e => ?_⟩, hlp.1⟩
  · by_cases e2 : a = k
    · subst e2; rw [hks, fk]; rfl
    · by_cases e : a = p
      · subst e
        rw [h.fi a hpk, hkp, hls]
        cases ls <;> rfl
      · rw [hko a e]; exact h.fi a (by omega)
  · by_cases e : a = p
    · subst e; rw [upd_same, hkp]; simp
    · rw [upd_other e]
      by_cases e2 : a = k
      · subst e2; rw [hks, lk]; rfl
      · rw [hko a e]; exact h.la a (by omega)
  · by_cases e1 : a = p
    · subst e1
      rcases List.eq_nil_or_concat rest with hr | ⟨rest', r, hr⟩
      · subst hr
        rw [hkp] at e
        obtain ⟨_, e3⟩ := List.append_inj' e rfl
        have : k = j := by simpa using e3
        subst this
        rw [upd_other (by omega), nk]; rfl
      · subst hr
        have e4 : ls ++ [l] ++ [k] = (done ++ j :: rest') ++ [r] := by rw [← hkp, e]; simp
        obtain ⟨e5, e6⟩ := List.append_inj' e4 rfl
        have : k = r := by simpa using e6
        subst this
        rw [← hls] at e5
        have h2 := h.ne a done j rest' hpk e5
        cases rest' with
        | nil =>
          rw [hls] at e5
          obtain ⟨_, e7⟩ := List.append_inj' e5 rfl
          have : l = j := by simpa using e7
          subst this
          rw [upd_same]; rfl
        | cons r' rest'' =>
          have hjl : j ≠ l := fun hj => by
            subst hj
            have hs := kid_sorted zs k a
            rw [e5] at hs
            obtain ⟨_, hs2, _⟩ := List.pairwise_append.1 hs
            have hlast : j ∈ r' :: rest'' := by
              have h3 : (kidL zs k a).getLast? = some j := by rw [hls]; simp
              rw [e5] at h3
              have h4 : (r' :: rest'').getLast? = some j := by
                rw [List.getLast?_append] at h3
                simpa using h3
              exact List.mem_of_getLast? h4
            have := (List.pairwise_cons.1 hs2).1 j hlast
            omega
          rw [upd_other hjl, h2]; rfl
    · by_cases e2 : a = k
      · subst e2; rw [hks] at e; simp at e
      · rw [hko a e1] at e
        have hjl : j ≠ l := fun hj => by
          have hj2 := (kid_mem.1 (show j ∈ kidL zs k a by rw [e]; simp)).2
          rw [hj, hlp.2] at hj2
          omega
        rw [upd_other hjl]
        exact h.ne a done j rest (by omega) e
end
end Go.Proofs.YtffggmjhaaehlaaGreatDoor
