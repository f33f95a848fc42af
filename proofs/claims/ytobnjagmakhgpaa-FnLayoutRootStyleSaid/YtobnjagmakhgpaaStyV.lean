/- Plain facts on styles: the own style changes nothing; what another style leaves, and back again. No condition. -/
import Derived.Test.YtobnjagmakhgpaaStyI
namespace Go.Proofs.Ytobnjagmakhgpaa
open Go.RowKit

section
variable {n a i : Nat} {zs : List Int} {p b1 b2 b3 b4 b5 b6 b7 b8 : Int}
theorem sty_at (hz : zs.length = n * 9) (i : Nat) (hi : i < n * 9) :
    (styL zs a p b1 b2 b3 b4 b5 b6 b7 b8).getD i 0 = if a * 9 + 8 = i then b8 else if a * 9 + 7 = i then b7 else if a * 9 + 6 = i then b6 else if a * 9 + 5 = i then b5 else if a * 9 + 4 = i then b4 else if a * 9 + 3 = i then b3 else if a * 9 + 2 = i then b2 else if a * 9 + 1 = i then b1 else if a * 9 = i then p else zs.getD i 0 := by
  unfold styL
  rw [getD_set _ _ _ _ (by simp only [List.length_set]; omega), getD_set _ _ _ _ (by simp only [List.length_set]; omega), getD_set _ _ _ _ (by simp only [List.length_set]; omega), getD_set _ _ _ _ (by simp only [List.length_set]; omega), getD_set _ _ _ _ (by simp only [List.length_set]; omega), getD_set _ _ _ _ (by simp only [List.length_set]; omega), getD_set _ _ _ _ (by simp only [List.length_set]; omega), getD_set _ _ _ _ (by simp only [List.length_set]; omega), getD_set _ _ _ _ (by omega)]
theorem sty_same (hz : zs.length = n * 9) : styL zs a (par zs a) (zs.getD (a * 9 + 1) 0) (zs.getD (a * 9 + 2) 0) (zs.getD (a * 9 + 3) 0) (zs.getD (a * 9 + 4) 0) (zs.getD (a * 9 + 5) 0) (zs.getD (a * 9 + 6) 0) (zs.getD (a * 9 + 7) 0) (zs.getD (a * 9 + 8) 0) = zs := by
  apply ext_get
  · rw [styL_len]
  · intro i hi
    rw [styL_len] at hi
    rw [sty_at hz i (by omega)]
    unfold par
    repeat' split
    all_goals first | rfl | (rename_i h; rw [h]; done) | (exfalso; omega)
theorem sty_back (hz : zs.length = n * 9) : styL (styL zs a p b1 b2 b3 b4 b5 b6 b7 b8) a (par zs a) (zs.getD (a * 9 + 1) 0) (zs.getD (a * 9 + 2) 0) (zs.getD (a * 9 + 3) 0) (zs.getD (a * 9 + 4) 0) (zs.getD (a * 9 + 5) 0) (zs.getD (a * 9 + 6) 0) (zs.getD (a * 9 + 7) 0) (zs.getD (a * 9 + 8) 0) = zs := by
  apply ext_get
  · rw [styL_len, styL_len]
  · intro i hi
    rw [styL_len, styL_len] at hi
    rw [sty_at (n := n) (by rw [styL_len]; exact hz) i (by omega)]
    unfold par
    repeat' split
    all_goals first | (rename_i h; rw [h]; done) | (rw [sty_at hz i (by omega)]; repeat (rw [if_neg (by assumption)]))
theorem styOk_same (hv : vtB n zs = true) (hz : zs.length = n * 9) (ha : a < n) : styOk n zs (a : Int) (zs.getD (a * 9 + 1) 0) (zs.getD (a * 9 + 2) 0) (zs.getD (a * 9 + 3) 0) (zs.getD (a * 9 + 4) 0) (zs.getD (a * 9 + 5) 0) (zs.getD (a * 9 + 6) 0) (zs.getD (a * 9 + 7) 0) (zs.getD (a * 9 + 8) 0) = true := by
  unfold styOk
  rw [nodeOk_iff.2 ⟨hv, a, rfl, ha⟩, Int.toNat_natCast, sty_same hz, hv]
  rfl
theorem styA_same (hv : vtB n zs = true) (hz : zs.length = n * 9) (ha : a < n) : styA n zs (a : Int) (zs.getD (a * 9 + 1) 0) (zs.getD (a * 9 + 2) 0) (zs.getD (a * 9 + 3) 0) (zs.getD (a * 9 + 4) 0) (zs.getD (a * 9 + 5) 0) (zs.getD (a * 9 + 6) 0) (zs.getD (a * 9 + 7) 0) (zs.getD (a * 9 + 8) 0) = zs := by
  unfold styA
  rw [if_pos (styOk_same hv hz ha), Int.toNat_natCast, sty_same hz]
theorem styA_mul (hz : zs.length = n * 9) (at_ : Int) : ∃ M, (styA n zs at_ b1 b2 b3 b4 b5 b6 b7 b8).length = M * 9 ∧ M ≤ 16 := by
  unfold styA
  split
  · next h =>
    unfold styOk at h
    rw [Bool.and_eq_true] at h
    exact ⟨n, by rw [styL_len]; exact hz, (vtB_iff.1 h.2).1.2⟩
  · exact ⟨0, rfl, by omega⟩
theorem styA_yes (h : styOk n zs (a : Int) b1 b2 b3 b4 b5 b6 b7 b8 = true) : styA n zs (a : Int) b1 b2 b3 b4 b5 b6 b7 b8 = styL zs a (par zs a) b1 b2 b3 b4 b5 b6 b7 b8 := by
  unfold styA; rw [if_pos h, Int.toNat_natCast]
theorem sty_par (hz : zs.length = n * 9) (ha : a < n) : par (styL zs a p b1 b2 b3 b4 b5 b6 b7 b8) a = p := by
  unfold par
  rw [sty_at hz (a * 9) (by omega)]
  repeat rw [if_neg (by omega)]
  exact if_pos rfl
theorem sty_knd (hz : zs.length = n * 9) (ha : a < n) : (styL zs a p b1 b2 b3 b4 b5 b6 b7 b8).getD (a * 9 + 1) 0 = b1 := by
  rw [sty_at hz (a * 9 + 1) (by omega)]
  repeat rw [if_neg (by omega)]
  exact if_pos rfl
theorem sty_else (hz : zs.length = n * 9) (hi : i < n * 9) (h : i / 9 ≠ a) : (styL zs a p b1 b2 b3 b4 b5 b6 b7 b8).getD i 0 = zs.getD i 0 := by
  rw [sty_at hz i hi]
  repeat rw [if_neg (by omega)]
theorem sty_parent (hz : zs.length = n * 9) (hi : i < n) : (styL zs a (par zs a) b1 b2 b3 b4 b5 b6 b7 b8).getD (i * 9) 0 = zs.getD (i * 9) 0 := by
  by_cases h : i = a
  · subst h; exact sty_par hz hi
  · exact sty_else hz (by omega) (by omega)
theorem styOk_valid (h : styOk n zs (a : Int) b1 b2 b3 b4 b5 b6 b7 b8 = true) : nodeOk n zs (a : Int) = true ∧ vtB n (styL zs a (par zs a) b1 b2 b3 b4 b5 b6 b7 b8) = true := by
  unfold styOk at h
  rw [Bool.and_eq_true, Int.toNat_natCast] at h
  exact h
theorem styOk_back (h : styOk n zs (a : Int) b1 b2 b3 b4 b5 b6 b7 b8 = true) (hv : vtB n zs = true) (hz : zs.length = n * 9) (ha : a < n) : styOk n (styL zs a (par zs a) b1 b2 b3 b4 b5 b6 b7 b8) (a : Int) (zs.getD (a * 9 + 1) 0) (zs.getD (a * 9 + 2) 0) (zs.getD (a * 9 + 3) 0) (zs.getD (a * 9 + 4) 0) (zs.getD (a * 9 + 5) 0) (zs.getD (a * 9 + 6) 0) (zs.getD (a * 9 + 7) 0) (zs.getD (a * 9 + 8) 0) = true := by
  unfold styOk
  rw [nodeOk_iff.2 ⟨(styOk_valid h).2, a, rfl, ha⟩, Int.toNat_natCast, sty_par hz ha, sty_back hz, hv]
  rfl
theorem styA_back (h : styOk n zs (a : Int) b1 b2 b3 b4 b5 b6 b7 b8 = true) (hv : vtB n zs = true) (hz : zs.length = n * 9) (ha : a < n) : styA n (styL zs a (par zs a) b1 b2 b3 b4 b5 b6 b7 b8) (a : Int) (zs.getD (a * 9 + 1) 0) (zs.getD (a * 9 + 2) 0) (zs.getD (a * 9 + 3) 0) (zs.getD (a * 9 + 4) 0) (zs.getD (a * 9 + 5) 0) (zs.getD (a * 9 + 6) 0) (zs.getD (a * 9 + 7) 0) (zs.getD (a * 9 + 8) 0) = zs := by
  rw [styA_yes (styOk_back h hv hz ha), sty_par hz ha, sty_back hz]
end
end Go.Proofs.Ytobnjagmakhgpaa
