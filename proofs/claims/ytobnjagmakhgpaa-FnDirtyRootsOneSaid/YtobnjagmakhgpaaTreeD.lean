/- Plain facts on marked boxes: the outermost marked box around a box, or the box itself; the marked boxes that are in no other one, and the boxes in marked ones. No condition. -/
import Derived.Test.YtobnjagmakhgpaaZF
namespace Go.Proofs.Ytobnjagmakhgpaa
open Go.RowKit

/-- The outermost marked box that is around a box, or is it. -/
def drt (f : Nat → Bool) (zs : List Int) (i : Nat) : Option Nat := if _h : 0 ≤ par zs i ∧ (par zs i).toNat < i then (match drt f zs (par zs i).toNat with | some r => some r | none => if f i then some i else none) else if f i then some i else none
termination_by i
decreasing_by omega
def ornO (x y : Option Nat) : Option Nat := match x with | some r => some r | none => y
def drtO (f : Nat → Bool) (zs : List Int) : Option Nat → Option Nat
  | none => none
  | some j => drt f zs j
def oi : Option Nat → Int
  | none => -1
  | some r => (r : Int)
/-- The box numbers of marks. -/
def mk (ms : List Int) (i : Nat) : Bool := ms.contains (i : Int)
def rootL (n : Nat) (zs ms : List Int) : List Nat := (List.range n).filter fun i => drt (mk ms) zs i == some i
def covL (n : Nat) (zs ms : List Int) : List Nat := (List.range n).filter fun i => (drt (mk ms) zs i).isSome
section
variable {f : Nat → Bool} {zs ms : List Int} {a i j k n p r : Nat}
theorem mk_iff : mk ms i = true ↔ (i : Int) ∈ ms := by unfold mk; exact List.contains_iff_mem
theorem drt_par (h : par zs i = (p : Int)) (hp : p < i) : drt f zs i = ornO (drt f zs p) (if f i then some i else none) := by
  rw [drt, dif_pos ⟨by omega, by omega⟩, h]
  simp only [Int.toNat_natCast]
  rfl
theorem drt_top (h : ¬ (0 ≤ par zs i ∧ (par zs i).toNat < i)) : drt f zs i = if f i then some i else none := by rw [drt, dif_neg h]
/-- It is marked, around the box, and no marked box is around it. -/
theorem drt_some (h : drt f zs i = some r) : f r = true ∧ anc zs r i = true ∧ ∀ a, f a = true → anc zs a i = true → anc zs r a = true := by
  induction i using Nat.strongRecOn with
  | ind i ih =>
    have own : f i = true → (∀ a, f a = true → anc zs a i = true → a = i) → r = i → f r = true ∧ anc zs r i = true ∧ ∀ a, f a = true → anc zs a i = true → anc zs r a = true := by
      rintro hf ho rfl
      exact ⟨hf, anc_self _ _, fun a h1 h2 => by rw [ho a h1 h2]; exact anc_self _ _⟩
    rcases par_cases zs i with ⟨p, e, hp⟩ | h2
    · rw [drt_par e hp] at h
      cases hd : drt f zs p with
      | some q =>
        rw [hd] at h
        obtain rfl : q = r := Option.some.inj h
        obtain ⟨h1, h3, h4⟩ := ih p hp hd
        have h5 := anc_le h3
        refine ⟨h1, by rw [anc_par e hp (by omega)]; exact h3, fun a h6 h7 => ?_⟩
        by_cases hn : i = a
        · subst hn; rw [anc_par e hp (by omega)]; exact h3
        · rw [anc_par e hp hn] at h7; exact h4 a h6 h7
      | none =>
        rw [hd] at h
        simp only [ornO] at h
        split at h
        · rename_i hf
          refine own hf (fun a h6 h7 => ?_) (Option.some.inj h).symm
          by_cases hn : i = a
          · exact hn.symm
          · rw [anc_par e hp hn] at h7
            exfalso
            clear ih own h
            -- no marked box is around p
            have : ∀ q, anc zs a q = true → drt f zs q ≠ none := by
              intro q
              induction q using Nat.strongRecOn with
              | ind q ihq =>
                intro h8 h9
                rcases par_cases zs q with ⟨p2, e2, hp2⟩ | h3
                · rw [drt_par e2 hp2] at h9
                  by_cases hq : q = a
                  · subst hq
                    cases hx : drt f zs p2 with
                    | some x => rw [hx] at h9; cases h9
                    | none => rw [hx] at h9; simp [ornO, h6] at h9
                  · rw [anc_par e2 hp2 hq] at h8
                    cases hx : drt f zs p2 with
                    | some x => rw [hx] at h9; cases h9
                    | none => exact ihq p2 hp2 h8 hx
                · by_cases hq : q = a
                  · subst hq; rw [drt_top h3, if_pos h6] at h9; cases h9
                  · rw [anc_top h3 hq] at h8; cases h8
            exact this p h7 hd
        · cases h
    · rw [drt_top h2] at h
      split at h
      · rename_i hf
        refine own hf (fun a h6 h7 => ?_) (Option.some.inj h).symm
        by_cases hn : i = a
        · exact hn.symm
        · rw [anc_top h2 hn] at h7; cases h7
      · cases h
theorem drt_none (h : drt f zs i = none) (hf : f a = true) : anc zs a i = false := by
  induction i using Nat.strongRecOn with
  | ind i ih =>
    rcases par_cases zs i with ⟨p, e, hp⟩ | h3
    · rw [drt_par e hp] at h
      cases hx : drt f zs p with
      | some x => rw [hx] at h; cases h
      | none =>
        rw [hx] at h
        by_cases hq : i = a
        · subst hq; simp [ornO, hf] at h
        · rw [anc_par e hp hq]; exact ih p hp hx
    · by_cases hq : i = a
      · subst hq; rw [drt_top h3, if_pos hf] at h; cases h
      · exact anc_top h3 hq
theorem drt_is (h1 : f r = true) (h2 : anc zs r i = true) (h3 : ∀ a, f a = true → anc zs a i = true → anc zs r a = true) : drt f zs i = some r := by
  cases hd : drt f zs i with
  | none => rw [drt_none hd h1] at h2; cases h2
  | some q =>
    obtain ⟨h4, h5, h6⟩ := drt_some hd
    have h7 := anc_le (h6 r h1 h2)
    have h8 := anc_le (h3 q h4 h5)
    rw [show q = r by omega]
theorem drt_le (h : drt f zs i = some r) : r ≤ i := anc_le (drt_some h).2.1
theorem root_iff (hb : ∀ z ∈ ms, 0 ≤ z) : drt (mk ms) zs i = some i ↔ mk ms i = true ∧ ∀ z ∈ ms, z = (i : Int) ∨ anc zs z.toNat i = false := by
  constructor
  · intro h
    obtain ⟨h1, _, h3⟩ := drt_some h
    refine ⟨h1, fun z hz => ?_⟩
    cases ha : anc zs z.toNat i with
    | false => exact .inr rfl
    | true =>
      have h0 := hb z hz
      have h4 := h3 z.toNat (mk_iff.2 (by rw [Int.toNat_of_nonneg h0]; exact hz)) ha
      have h5 := anc_le h4
      have h6 := anc_le ha
      exact .inl (by omega)
  · rintro ⟨h1, h2⟩
    refine drt_is h1 (anc_self _ _) fun a h3 h4 => ?_
    rcases h2 _ (mk_iff.1 h3) with h5 | h5
    · obtain rfl : a = i := by omega
      exact anc_self _ _
    · rw [Int.toNat_natCast, h4] at h5; cases h5
theorem cov_iff (hb : ∀ z ∈ ms, 0 ≤ z) : (drt (mk ms) zs i).isSome = true ↔ ∃ z ∈ ms, anc zs z.toNat i = true := by
  constructor
  · intro h
    cases hd : drt (mk ms) zs i with
    | none => rw [hd] at h; cases h
    | some r =>
      obtain ⟨h1, h2, _⟩ := drt_some hd
      exact ⟨(r : Int), mk_iff.1 h1, by rw [Int.toNat_natCast]; exact h2⟩
  · rintro ⟨z, hz, h2⟩
    cases hd : drt (mk ms) zs i with
    | some r => rfl
    | none =>
      rw [drt_none hd (mk_iff.2 (by rw [Int.toNat_of_nonneg (hb z hz)]; exact hz))] at h2
      cases h2
end
end Go.Proofs.Ytobnjagmakhgpaa
