/- Plain facts on parts of trees: parents that move, and the boxes of a part. No condition. -/
import Derived.Test.YtobnjagmakhgpaaZF
import Derived.Test.YtobnjagmakhgpaaAnsT
import Derived.Test.YtobnjagmakhgpaaBoxB
namespace Go.Proofs.Ytobnjagmakhgpaa
open Go.RowKit

/-- The parents of all boxes, turned. -/
def parF (f : Int → Int) (zs : List Int) : List Int := (List.range zs.length).map fun i => if i % 9 = 0 then f (zs.getD i 0) else zs.getD i 0
/-- A parent that is not before a place moves. -/
def mvp (from_ by_ : Int) (p : Int) : Int := if from_ ≤ p then p + by_ else p
theorem parF_len (f : Int → Int) (zs : List Int) : (parF f zs).length = zs.length := by simp [parF]
theorem parF_at {f : Int → Int} {zs : List Int} {i : Nat} (hi : i < zs.length) : (parF f zs).getD i 0 = if i % 9 = 0 then f (zs.getD i 0) else zs.getD i 0 := by simp [parF, hi]
theorem ext_get {xs ys : List Int} (hl : xs.length = ys.length) (h : ∀ i, i < xs.length → xs.getD i 0 = ys.getD i 0) : xs = ys := by
  apply List.ext_getElem hl
  intro i h1 h2
  have := h i h1
  simpa [h1, h2] using this
/-- The boxes from a place on. -/
def midL (zs : List Int) (a m : Nat) : List Int := (zs.drop (a * 9)).take (m * 9)
theorem midL_len {zs : List Int} {a m n : Nat} (hz : zs.length = n * 9) (h : a + m ≤ n) : (midL zs a m).length = m * 9 := by
  unfold midL; rw [List.length_take, List.length_drop, hz]; omega
theorem midL_at {zs : List Int} {a m i : Nat} (hi : i < m * 9) : (midL zs a m).getD i 0 = zs.getD (a * 9 + i) 0 := by
  unfold midL
  rw [List.getD_eq_getElem?_getD, List.getElem?_take_of_lt hi, List.getElem?_drop, List.getD_eq_getElem?_getD]
theorem midL_par {zs : List Int} {a m k : Nat} (hk : k < m) : par (midL zs a m) k = par zs (a + k) := by
  unfold par; rw [midL_at (by omega)]; congr 1; omega
/-- A part as a tree. -/
def partL (zs : List Int) (a m : Nat) : List Int := (parF (fun p => p - (a : Int)) (midL zs a m)).set 0 (-1)
theorem partL_len {zs : List Int} {a m n : Nat} (hz : zs.length = n * 9) (h : a + m ≤ n) : (partL zs a m).length = m * 9 := by
  unfold partL; rw [List.length_set, parF_len, midL_len hz h]
def partOk (n : Nat) (zs : List Int) (at_ : Int) : Bool := nodeOk n zs at_
def partA (n : Nat) (zs : List Int) (at_ : Int) : List Int := if nodeOk n zs at_ = true then partL zs at_.toNat (en zs n at_.toNat - at_.toNat) else []
theorem Sts.mid {w : World} {b off n a m : Nat} {zs : List Int} (h : Sts 9 w (some ⟨b, off, none⟩) n zs) (hm : a + m ≤ n) : Sts 9 w (some ⟨b, off + a * 9, none⟩) m (midL zs a m) := by
  refine ⟨midL_len h.len hm, fun h0 => ?_⟩
  obtain ⟨b', off', e, hb, hc⟩ := h.at_ (by omega)
  injection e with e
  injection e with e1 e2
  subst e1 e2
  exact ⟨b, off + a * 9, rfl, hb, fun i hi => by rw [midL_at hi, Nat.add_assoc]; exact hc _ (by omega)⟩
section
variable {n a i k : Nat} {zs : List Int}
/-- Parents in a part are in it. -/
theorem in_par (h : vtB n zs = true) (ha : a < n) (hi : i < en zs n a) (hai : a < i) : ∃ p : Nat, par zs i = (p : Int) ∧ a ≤ p ∧ p < i := by
  have hin : i < n := by have := en_bd (zs := zs) ha; omega
  obtain ⟨p, e, hp⟩ := par_bd h hin (by omega)
  refine ⟨p, e, ?_, hp⟩
  have h1 : anc zs a i = true := ((link_vt h).in_iff ha hin).2 ⟨by omega, hi⟩
  rw [anc_par e hp (by omega)] at h1
  exact anc_le h1
theorem par_lim (h : vtB n zs = true) (hi : i < n) : -1 ≤ par zs i ∧ par zs i ≤ 15 := by
  rcases Nat.eq_zero_or_pos i with h0 | h0
  · subst h0; rw [par_root h hi]; omega
  · obtain ⟨p, e, hp⟩ := par_bd h hi h0
    have := (vtB_iff.1 h).1
    rw [e]; omega
/-- The program's way to a part is the reference's. -/
theorem part_same (h : vtB n zs = true) (hz : zs.length = n * 9) (ha : a < n) :
    parF (mvp (a : Int) (-(a : Int))) ((midL zs a (en zs n a - a)).set 0 (-1)) = partL zs a (en zs n a - a) := by
  have eb := en_bd (zs := zs) ha
  have hl := midL_len (zs := zs) (a := a) (m := en zs n a - a) hz (by omega)
  obtain ⟨m, hm⟩ : ∃ m, en zs n a - a = m := ⟨_, rfl⟩
  rw [hm] at hl ⊢
  apply ext_get
  · rw [parF_len, List.length_set]; unfold partL; rw [List.length_set, parF_len]
  · intro i hi
    rw [parF_len, List.length_set] at hi
    rw [parF_at (by rw [List.length_set]; exact hi), getD_set _ _ _ _ hi]
    unfold partL
    rw [getD_set _ _ _ _ (by rw [parF_len]; exact hi), parF_at hi]
    by_cases h0 : 0 = i
    · subst h0
      simp only [if_pos, mvp]
      rw [if_neg (by omega)]
    · rw [if_neg h0, if_neg h0]
      by_cases h9 : i % 9 = 0
      · rw [if_pos h9, if_pos h9]
        obtain ⟨k, rfl⟩ : ∃ k, i = k * 9 := ⟨i / 9, by omega⟩
        have e1 : (midL zs a m).getD (k * 9) 0 = par zs (a + k) := midL_par (zs := zs) (a := a) (m := m) (by omega)
        obtain ⟨p, e, hp, _⟩ := in_par h ha (show a + k < en zs n a by omega) (by omega)
        rw [e1, e]
        unfold mvp
        rw [if_pos (by omega)]
        omega
      · rw [if_neg h9, if_neg h9]
end
theorem partA_len {n : Nat} {zs : List Int} (hz : zs.length = n * 9) (at_ : Int) : (partA n zs at_).length ≤ 144 := by
  unfold partA
  split
  · next h =>
    obtain ⟨hv, a, rfl, ha⟩ := nodeOk_iff.1 h
    have h16 := (vtB_iff.1 hv).1
    have eb := en_bd (zs := zs) ha
    rw [Int.toNat_natCast, partL_len hz (by omega)]
    omega
  · simp
end Go.Proofs.Ytobnjagmakhgpaa
