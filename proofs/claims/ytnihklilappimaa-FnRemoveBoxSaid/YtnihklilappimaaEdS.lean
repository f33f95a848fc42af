/- Plain facts on a tree without a box: its boxes are those of the tree, from the removed one on moved. No condition. -/
import Derived.Test.YtnihklilappimaaEdR
namespace Go.Proofs.Ytnihklilappimaa
open Go.RowKit

section
variable {zs : List Int} {n a m j r : Nat}
theorem rem_low (h : vtB n zs = true) (hz : zs.length = n * 9) (ha : a < n) (hm : en zs n a = a + m) (hj : j < a * 9) : (remL n zs a).getD j 0 = zs.getD j 0 := by
  have eb := en_bd (zs := zs) ha
  rw [rem_get hz ha hm (by omega), if_pos hj]
  by_cases h9 : j % 9 = 0
  · rw [if_pos h9]
    have zb : zs.getD j 0 < (a : Int) := by
      have hp : par zs (j / 9) = zs.getD j 0 := by unfold par; rw [show j / 9 * 9 = j by omega]
      rcases Nat.eq_zero_or_pos (j / 9) with h3 | h3
      · rw [← hp, h3, par_root h (by omega)]; omega
      · obtain ⟨p, e3, hp2⟩ := par_bd h (show j / 9 < n by omega) h3
        rw [← hp, e3]; omega
    unfold mvp
    rw [if_neg (by omega)]
  · rw [if_neg h9]
theorem rem_take (h : vtB n zs = true) (hz : zs.length = n * 9) (ha : a < n) (hm : en zs n a = a + m) : (remL n zs a).take (a * 9) = zs.take (a * 9) := by
  have eb := en_bd (zs := zs) ha
  have hl : (remL n zs a).length = (n - m) * 9 := by rw [remL_len hz ha, hm]; congr 1; omega
  refine ext_get (by rw [List.length_take, List.length_take, hl, hz]; omega) fun i hi => ?_
  rw [List.length_take, hl] at hi
  rw [List.getD_eq_getElem?_getD, List.getElem?_take_of_lt (by omega), ← List.getD_eq_getElem?_getD, List.getD_eq_getElem?_getD (l := zs.take _), List.getElem?_take_of_lt (by omega), ← List.getD_eq_getElem?_getD]
  exact rem_low h hz ha hm (by omega)
theorem rem_up (hz : zs.length = n * 9) (ha : a < n) (hm : en zs n a = a + m) (hj : a ≤ j) (hn : j + m < n) (hr : r < 9) (h0 : 0 < r) : (remL n zs a).getD (j * 9 + r) 0 = zs.getD ((j + m) * 9 + r) 0 := by
  have := rem_field hz ha hm hn (.inr (by omega)) hr h0
  rwa [show rmv a m (j + m) = j by unfold rmv; rw [if_neg (by omega)]; omega] at this
end
/-- A walk goes on from any world that meets what is known of this one. -/
theorem wp_any_world {P : Program} {c : Code} {Q : Exit → Act → World → Prop} {a : Act} {w : World} (S : World → Prop) (hS : S w) (h : ∀ w', S w' → Code.wp P c Q a w') : Code.wp P c Q a w := h w hS
end Go.Proofs.Ytnihklilappimaa
