/- Plain facts on hits: which box a point hits, told from outside to inside (as the program goes) and as the last box all of whose boxes around have the point (as the reference goes): the same. No condition. -/
import Derived.Test.YtokcbfnmnccacaaLayA
namespace Go.Proofs.Ytokcbfnmnccacaa
open Go.RowKit

section
variable (zs : List Int) (n : Nat) (W H x y : Int)
/-- The point is in the box's rectangle. -/
def inB (i : Nat) : Bool := hR (layR zs n W H i).1 (layR zs n W H i).2.1 (layR zs n W H i).2.2.1 (layR zs n W H i).2.2.2 x y
/-- The point is in the box's rectangle and in those of all boxes around it. -/
def inAll (i : Nat) : Bool := if _h : 0 ≤ par zs i ∧ (par zs i).toNat < i then inB zs n W H x y i && inAll (par zs i).toNat else inB zs n W H x y i
termination_by i
decreasing_by omega
def hitTo : Nat → Int
  | 0 => -1
  | k + 1 => if par zs k = hitTo k ∧ inB zs n W H x y k = true then (k : Int) else hitTo k
def lastIn : Nat → Int
  | 0 => -1
  | k + 1 => if inAll zs n W H x y k = true then (k : Int) else lastIn k
def hitA : Int := if layOk n zs W H = true then hitTo zs n W H x y n else -1
end
section
variable {zs : List Int} {n : Nat} {W H x y : Int}
theorem inAll_par {i p : Nat} (h : par zs i = (p : Int)) (hp : p < i) : inAll zs n W H x y i = (inB zs n W H x y i && inAll zs n W H x y p) := by
  rw [inAll, dif_pos ⟨by omega, by omega⟩, h, Int.toNat_natCast]
theorem inAll_top {i : Nat} (h : par zs i < 0) : inAll zs n W H x y i = inB zs n W H x y i := by rw [inAll, dif_neg (by omega)]
theorem inAll_in {i : Nat} (h : inAll zs n W H x y i = true) : inB zs n W H x y i = true := by
  rw [inAll] at h
  split at h
  · exact (Bool.and_eq_true _ _ ▸ h).1
  · exact h
theorem inAll_anc {a : Nat} : ∀ {i : Nat}, anc zs a i = true → inAll zs n W H x y i = true → inAll zs n W H x y a = true := by
  intro i
  induction i using Nat.strongRecOn with
  | ind i ih =>
    intro h1 h2
    by_cases hn : i = a
    · rw [← hn]; exact h2
    · rcases par_cases zs i with ⟨p, e, hp⟩ | h3
      · rw [anc_par e hp hn] at h1
        rw [inAll_par e hp, Bool.and_eq_true] at h2
        exact ih p hp h1 h2.2
      · rw [anc_top h3 hn] at h1; cases h1
/-- Between a box and one further in there is a box directly in the first one. -/
theorem anc_kid {a : Nat} : ∀ {i : Nat}, anc zs a i = true → i ≠ a → ∃ c, par zs c = (a : Int) ∧ a < c ∧ anc zs c i = true := by
  intro i
  induction i using Nat.strongRecOn with
  | ind i ih =>
    intro h1 hn
    rcases par_cases zs i with ⟨p, e, hp⟩ | h3
    · rw [anc_par e hp hn] at h1
      by_cases hpa : p = a
      · subst hpa; exact ⟨i, e, hp, anc_self _ _⟩
      · obtain ⟨c, hc1, hc2, hc3⟩ := ih p hp h1 hpa
        have := anc_le hc3
        exact ⟨c, hc1, hc2, by rw [anc_par e hp (by omega)]; exact hc3⟩
    · rw [anc_top h3 hn] at h1; cases h1
theorem inB_apart {c k p : Nat} (hv : vtB n zs = true) (hW : 0 ≤ W ∧ W ≤ 10000) (hH : 0 ≤ H ∧ H ≤ 10000) (hc : par zs c = (p : Int)) (hk : par zs k = (p : Int)) (hck : c < k) (hkn : k < n) (h1 : inB zs n W H x y c = true) (h2 : inB zs n W H x y k = true) : False := by
  have h := lay_apart hv hW hH hc hk hck hkn
  unfold inB hR at h1 h2
  have h1 := of_decide_eq_true h1
  have h2 := of_decide_eq_true h2
  omega
theorem lastIn_lt : ∀ k, -1 ≤ lastIn zs n W H x y k ∧ lastIn zs n W H x y k < (k : Int)
  | 0 => by unfold lastIn; omega
  | k + 1 => by
    have := lastIn_lt k
    unfold lastIn
    split <;> omega
theorem lastIn_in : ∀ {k p : Nat}, lastIn zs n W H x y k = (p : Int) → inAll zs n W H x y p = true
  | 0, p, h => by unfold lastIn at h; omega
  | k + 1, p, h => by
    unfold lastIn at h
    split at h
    · next h1 => obtain rfl : k = p := by omega
                 exact h1
    · exact lastIn_in h
theorem lastIn_of : ∀ {k p : Nat}, p < k → inAll zs n W H x y p = true → (∀ j, p < j → j < k → inAll zs n W H x y j = false) → lastIn zs n W H x y k = (p : Int)
  | 0, p, h, _, _ => absurd h (by omega)
  | k + 1, p, h, h1, h2 => by
    unfold lastIn
    by_cases e : p = k
    · subst e; rw [if_pos h1]
    · rw [if_neg (by rw [h2 k (by omega) (by omega)]; simp)]
      exact lastIn_of (by omega) h1 (fun j hj hk => h2 j hj (by omega))
theorem lastIn_no : ∀ {k : Nat}, (∀ j, j < k → inAll zs n W H x y j = false) → lastIn zs n W H x y k = -1
  | 0, _ => rfl
  | k + 1, h => by
    unfold lastIn
    rw [if_neg (by rw [h k (by omega)]; simp)]
    exact lastIn_no fun j hj => h j (by omega)
/-- The program's way and the reference's way end at the same box. -/
theorem hit_eq (hv : vtB n zs = true) (hW : 0 ≤ W ∧ W ≤ 10000) (hH : 0 ≤ H ∧ H ≤ 10000) : ∀ k, k ≤ n → hitTo zs n W H x y k = lastIn zs n W H x y k
  | 0, _ => rfl
  | k + 1, hk => by
    have ih := hit_eq hv hW hH k (by omega)
    have hL := link_vt hv
    unfold hitTo lastIn
    rw [ih]
    have key : (par zs k = lastIn zs n W H x y k ∧ inB zs n W H x y k = true) ↔ inAll zs n W H x y k = true := by
      rcases Nat.eq_zero_or_pos k with h0 | h0
      · subst h0
        have hr := hL.root (by omega)
        rw [inAll_top (by omega), hr]
        exact ⟨fun h => h.2, fun h => ⟨rfl, h⟩⟩
      · obtain ⟨p, e, hp, hq⟩ := hL.up k h0 (by omega)
        rw [inAll_par e hp, e, Bool.and_eq_true]
        refine ⟨fun h => ⟨h.2, lastIn_in h.1.symm⟩, fun h => ⟨?_, h.1⟩⟩
        refine (lastIn_of hp h.2 fun j hj hjk => ?_).symm
        cases hin : inAll zs n W H x y j
        · rfl
        · exfalso
          have hanc : anc zs p j = true := hL.between (i := k) (by omega) (by rw [anc_par e hp (by omega)]; exact anc_self _ _) (by omega) (by omega)
          obtain ⟨c, hc1, hc2, hc3⟩ := anc_kid hanc (by omega)
          have hcj := anc_le hc3
          exact inB_apart hv hW hH hc1 e (by omega) (by omega) (inAll_in (inAll_anc hc3 hin)) h.1
    by_cases h : inAll zs n W H x y k = true
    · rw [if_pos (key.2 h), if_pos h]
    · rw [if_neg (fun h2 => h (key.1 h2)), if_neg h]
theorem hitA_yes (h : layOk n zs W H = true) : hitA zs n W H x y = lastIn zs n W H x y n := by
  obtain ⟨hv, hW, hH⟩ := layOk_iff.1 h
  unfold hitA
  rw [if_pos h]
  exact hit_eq hv hW hH n (Nat.le_refl _)
theorem hitA_no (h : layOk n zs W H = false) : hitA zs n W H x y = -1 := by unfold hitA; rw [if_neg (by rw [h]; decide)]
theorem inB_iR {i : Nat} (h : layOk n zs W H = true) (hi : i < n) : iR (layR zs n W H i).1 (layR zs n W H i).2.1 (layR zs n W H i).2.2.1 (layR zs n W H i).2.2.2 x y = inB zs n W H x y i := by
  obtain ⟨hv, hW, hH⟩ := layOk_iff.1 h
  unfold iR inB
  rw [lay_vR hv hW hH hi, Bool.true_and]
end
end Go.Proofs.Ytokcbfnmnccacaa
