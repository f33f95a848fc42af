/- Plain facts on a tree with a box more: the box that takes it is no leaf, has room and is not too deep. No condition. -/
import Derived.Test.YtobnjagmakhgpaaAddI
namespace Go.Proofs.Ytobnjagmakhgpaa
open Go.RowKit

theorem dep_prefx {L zs : List Int} {e : Nat} (h : ∀ i, i < e → par L i = par zs i) : ∀ i, i < e → dep L i = dep zs i := by
  intro i
  induction i using Nat.strongRecOn with
  | ind i ih =>
    intro hi
    rcases par_cases zs i with ⟨p, hp, hlt⟩ | hno
    · rw [dep_par hp hlt, dep_par ((h i hi).trans hp) hlt, ih p hlt (by omega)]
    · rw [dep, dif_neg (by rw [h i hi]; exact hno), dep, dif_neg hno]
theorem kid_prefx {L zs : List Int} {e : Nat} (h : ∀ i, i < e → par L i = par zs i) (a : Nat) : kidL L e a = kidL zs e a := by
  unfold kidL
  exact List.filter_congr fun i hi => by rw [h i (List.mem_range.1 hi)]
theorem kid_en {zs : List Int} {n a : Nat} (hL : Link zs n) (ha : a < n) : ∀ m, en zs n a ≤ m → m ≤ n → kidL zs m a = kidL zs (en zs n a) a := by
  intro m
  induction m with
  | zero => intro h _; have := en_bd (zs := zs) ha; omega
  | succ m ih =>
    intro h hm
    by_cases he : en zs n a = m + 1
    · rw [he]
    · rw [kid_succ, if_neg, ih (by omega) (by omega)]
      intro hp
      have h1 := hL.not_kid (show m < n by omega) hp
      have h2 : anc zs a m = true := by rw [anc_par hp h1.2 (by omega)]; exact anc_self zs a
      have := ((hL.in_iff ha (show m < n by omega)).1 h2).2
      omega
/-- The box that takes one more. -/
theorem add_takes {n a : Nat} {zs bs : List Int} (h : addOk n zs (a : Int) bs = true) (hz : zs.length = n * 9) :
    knd zs a ≠ 0 ∧ (kidL zs n a).length < 8 ∧ dep zs a < 5 := by
  unfold addOk at h
  rw [Bool.and_eq_true, Int.toNat_natCast] at h
  obtain ⟨h1, h2⟩ := h
  obtain ⟨hv, a', e, ha⟩ := nodeOk_iff.1 h1
  obtain rfl : a = a' := by omega
  have eb := en_bd (zs := zs) ha
  have hL := link_vt hv
  have hk := kid_en hL ha n (by omega) (Nat.le_refl n)
  have hp := ((vtB_iff.1 h2).2 (en zs n a) (by omega)).2
  obtain ⟨m, hm⟩ : ∃ m, en zs n a = m := ⟨_, rfl⟩
  rw [hm] at eb hk hp
  have ht : (zs.take (m * 9)).length = m * 9 := by rw [List.length_take, hz]; omega
  have hc : addL n zs a bs = zs.take (m * 9) ++ (((a : Int) :: bs) ++ tailB zs m (n - m)) := by unfold addL; rw [hm]; simp
  have hlow : ∀ j, j < m * 9 → (addL n zs a bs).getD j 0 = zs.getD j 0 := fun j hj => by
    rw [hc, getD_apl (by rw [ht]; exact hj), List.getD_eq_getElem?_getD, List.getElem?_take_of_lt hj, List.getD_eq_getElem?_getD]
  have hpar : ∀ i, i < m → par (addL n zs a bs) i = par zs i := fun i hi => hlow (i * 9) (by omega)
  have hnew : par (addL n zs a bs) m = (a : Int) := by
    unfold par
    rw [hc, getD_apr (by rw [ht]; exact Nat.le_refl _), ht, Nat.sub_self]
    rfl
  obtain ⟨p, e1, _, _, e2, e3, e4⟩ := hp.pos (by omega)
  obtain rfl : p = a := by rw [hnew] at e1; omega
  rw [kid_prefx hpar] at e3
  rw [dep_prefx hpar _ eb.1] at e4
  unfold knd at e2 ⊢
  rw [hlow _ (by omega)] at e2
  rw [hk]
  exact ⟨e2, e3, e4⟩
theorem addA_mul {n : Nat} {zs : List Int} (hz : zs.length = n * 9) (at_ : Int) (bs : List Int) (hb : bs.length = 8) : addOk n zs at_ bs = true → (addA n zs at_ bs).length = (n + 1) * 9 := by
  intro h
  unfold addA
  rw [if_pos h]
  unfold addOk at h
  rw [Bool.and_eq_true] at h
  obtain ⟨hv, a, rfl, ha⟩ := nodeOk_iff.1 h.1
  have eb := en_bd (zs := zs) ha
  rw [Int.toNat_natCast]
  unfold addL
  simp only [List.length_append, List.length_take, List.length_cons, tailB_len, hz, hb]
  omega
end Go.Proofs.Ytobnjagmakhgpaa
