/- The tree with a text: plain. No condition. -/
import Derived.Test.YtffggmjhaaehlaaGreatDoorPbR
import Derived.Test.YtffggmjhaaehlaaGreatDoorTreeV
namespace Go.Proofs.YtffggmjhaaehlaaGreatDoor
open Go.RowKit

/-- The boxes of lines, one behind the other; ps: the numbers of the boxes around the next one. -/
def runL : List (List UInt8) → Nat → List Int → List Int → Option (List Int)
  | [], _, zs, _ => some zs
  | l :: r, n, zs, ps => if lnOk l ps.length then runL r (n + 1) (zs ++ bxL (parL ps (dpL l)) l) (ps.take (dpL l) ++ [(n : Int)]) else none
/-- What stands for the tree with a text. -/
def prT (s : List UInt8) : Option (List Int) := match runL (pcs 10 s) 0 [] [] with
  | some zs => if vtB (pcs 10 s).length zs = true then some zs else none
  | none => none
theorem bxL_len (p : Int) (l : List UInt8) : (bxL p l).length = 9 := by
  unfold bxL rdI
  rfl
section
variable {ls : List (List UInt8)} {n : Nat} {zs ps zs' : List Int} {s : List UInt8}
theorem runL_ext : ∀ (ls : List (List UInt8)) (n : Nat) (zs ps : List Int), runL ls n zs ps = some zs' → ∃ t, zs' = zs ++ t ∧ t.length = ls.length * 9
  | [], n, zs, ps, h => by
    have : zs = zs' := Option.some.inj h
    exact ⟨[], by simp [this], rfl⟩
  | l :: r, n, zs, ps, h => by
    unfold runL at h
    split at h
    · obtain ⟨t, e, hl⟩ := runL_ext r (n + 1) _ _ h
      exact ⟨bxL (parL ps (dpL l)) l ++ t, by rw [e, List.append_assoc], by rw [List.length_append, bxL_len, hl]; simp; omega⟩
    · cases h
theorem prT_none_of (h : runL (pcs 10 s) 0 [] [] = none) : prT s = none := by unfold prT; rw [h]
theorem prT_of (h : runL (pcs 10 s) 0 [] [] = some zs) : prT s = if vtB (pcs 10 s).length zs = true then some zs else none := by unfold prT; rw [h]
theorem prT_long (h : 16 < (pcs 10 s).length) : prT s = none := by
  cases hr : runL (pcs 10 s) 0 [] [] with
  | none => exact prT_none_of hr
  | some zs =>
    rw [prT_of hr, if_neg]
    intro hv
    have := (vtB_iff.1 hv).1.2
    omega
theorem run_next {k : Nat} {l : List UInt8} (hk : k < ls.length) (hl : ls.getD k [] = l) (h : lnOk l ps.length) : runL (ls.drop k) k zs ps = runL (ls.drop (k + 1)) (k + 1) (zs ++ bxL (parL ps (dpL l)) l) (ps.take (dpL l) ++ [(k : Int)]) := by
  rw [List.drop_eq_getElem_cons hk]
  have eg : ls[k] = l := by rw [← hl, List.getD_eq_getElem?_getD, List.getElem?_eq_getElem hk]; rfl
  rw [eg]
  show (if lnOk l ps.length then _ else none) = _
  rw [if_pos h]
theorem run_stop {k : Nat} {l : List UInt8} (hk : k < ls.length) (hl : ls.getD k [] = l) (h : ¬ lnOk l ps.length) : runL (ls.drop k) k zs ps = none := by
  rw [List.drop_eq_getElem_cons hk]
  have eg : ls[k] = l := by rw [← hl, List.getD_eq_getElem?_getD, List.getElem?_eq_getElem hk]; rfl
  rw [eg]
  show (if lnOk l ps.length then _ else none) = _
  rw [if_neg h]
/-- A box behind the first one that lies in none: no valid tree. -/
theorem prT_two {k : Nat} (hr : runL (pcs 10 s) 0 [] [] = runL ((pcs 10 s).drop k) k zs ps) (hz : zs.length = k * 9) (hk : k < (pcs 10 s).length) (h0 : 0 < k) (hd : dpL ((pcs 10 s).getD k []) = 0) : prT s = none := by
  cases hq : runL (pcs 10 s) 0 [] [] with
  | none => exact prT_none_of hq
  | some zs' =>
    rw [prT_of hq, if_neg]
    intro hv
    rw [hr, List.drop_eq_getElem_cons hk] at hq
    have eg : (pcs 10 s)[k] = (pcs 10 s).getD k [] := by rw [List.getD_eq_getElem?_getD, List.getElem?_eq_getElem hk]; rfl
    rw [eg] at hq
    unfold runL at hq
    split at hq
    · obtain ⟨t, e, _⟩ := runL_ext _ _ _ _ hq
      have hp := ((vtB_iff.1 hv).2 k hk).2
      unfold PlaceP at hp
      rw [if_neg (by omega)] at hp
      have e1 : par zs' k = -1 := by
        unfold par
        rw [e, List.append_assoc, List.getD_eq_getElem?_getD, List.getElem?_append_right (by omega), show k * 9 - zs.length = 0 by omega]
        unfold bxL parL
        rw [hd]
        rfl
      omega
    · cases hq
end
end Go.Proofs.YtffggmjhaaehlaaGreatDoor
