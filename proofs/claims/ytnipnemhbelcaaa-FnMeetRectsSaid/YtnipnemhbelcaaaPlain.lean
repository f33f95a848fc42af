/- Plain laws of common parts, hulls and insets, as the laws on rectangles need them. No condition. -/
import Derived.Test.YtnipnemhbelcaaaRectG
namespace Go.Proofs.Ytnipnemhbelcaaa
open Go.RowKit

/-- A rectangle is wholly in another one. -/
def insB (ax ay aw ah bx by' bw bh : Int) : Bool := decide (bx ≤ ax ∧ by' ≤ ay ∧ ax + aw ≤ bx + bw ∧ ay + ah ≤ by' + bh)
theorem insB_yes {ax ay aw ah bx by' bw bh : Int} (h : bx ≤ ax ∧ by' ≤ ay ∧ ax + aw ≤ bx + bw ∧ ay + ah ≤ by' + bh) : insB ax ay aw ah bx by' bw bh = true := decide_eq_true h

set_option maxHeartbeats 1000000 in
theorem inside_any (ax ay aw ah bx by' bw bh : Int) (w : World) (h1 : vR ax ay aw ah = true) (h2 : vR bx by' bw bh = true) :
    Calls Try.prog 16 #[rc ax ay aw ah, rc bx by' bw bh] w fun e w' => e = .returned (.bool (insB ax ay aw ah bx by' bw bh)) ∧ New w w' := by
  obtain ⟨a1, a2, a3, a4, a5, a6, a7, a8⟩ := vR_iff.1 h1
  obtain ⟨b1, b2, b3, b4, b5, b6, b7, b8⟩ := vR_iff.1 h2
  clear h1 h2
  go_enter Try.func16, Try.ntmps16
  go_wp2
  all_goals (go_ret; exact ⟨ret_bool (by unfold insB; rw [Bool.eq_iff_iff]; simp at *; omega), by (repeat (first | exact New.refl _ | assumption | refine New.alloc ?_ _ | refine New.drew ?_ | refine New.drewN ?_ _ | refine New.setCell ?_ (by first | omega | (simp; omega) | (simp; done)) _ | refine New.trans ?_ (by assumption)))⟩)

/-! ### Insets -/
theorem iOk_iff {x y w h e : Int} : iOk x y w h e = true ↔ vR x y w h = true ∧ (0 ≤ e ∧ e ≤ 50) ∧ vR (nL x w e) (nL y h e) (nW w e) (nW h e) = true := by
  unfold iOk; rw [Bool.and_eq_true, Bool.and_eq_true, eB_iff]; simp [and_assoc]
theorem n_of {x y w h e : Int} (hi : iOk x y w h e = true) : nA x y w h e = nL x w e ∧ nB x y w h e = nL y h e ∧ nC x y w h e = nW w e ∧ nD x y w h e = nW h e := by
  unfold nA nB nC nD; rw [ifB_yes hi, ifB_yes hi, ifB_yes hi, ifB_yes hi]; exact ⟨rfl, rfl, rfl, rfl⟩
theorem nL_zero {x w : Int} (h : 0 ≤ w) : nL x w 0 = x := by unfold nL mn; omega
theorem nW_zero {w : Int} (h : 0 ≤ w) : nW w 0 = w := by unfold nW mx; omega
theorem inset_zero {x y w h : Int} (hv : vR x y w h = true) : iOk x y w h 0 = true ∧ nA x y w h 0 = x ∧ nB x y w h 0 = y ∧ nC x y w h 0 = w ∧ nD x y w h 0 = h := by
  have g := vR_iff.1 hv
  have e : iOk x y w h 0 = true := iOk_iff.2 ⟨hv, by omega, by rw [nL_zero (by omega), nL_zero (by omega), nW_zero (by omega), nW_zero (by omega)]; exact hv⟩
  obtain ⟨e1, e2, e3, e4⟩ := n_of e
  exact ⟨e, by rw [e1, nL_zero (by omega)], by rw [e2, nL_zero (by omega)], by rw [e3, nW_zero (by omega)], by rw [e4, nW_zero (by omega)]⟩
theorem inset_facts {x y w h e : Int} (hi : iOk x y w h e = true) : vR x y w h = true ∧ (0 ≤ e ∧ e ≤ 50) ∧ vR (nA x y w h e) (nB x y w h e) (nC x y w h e) (nD x y w h e) = true ∧
    insB (nA x y w h e) (nB x y w h e) (nC x y w h e) (nD x y w h e) x y w h = true ∧ (nC x y w h e == mx 0 (w - 2 * e)) = true ∧ (nD x y w h e == mx 0 (h - 2 * e)) = true := by
  obtain ⟨hv, he, hn⟩ := iOk_iff.1 hi
  obtain ⟨e1, e2, e3, e4⟩ := n_of hi
  have g := vR_iff.1 hv
  rw [e1, e2, e3, e4]
  refine ⟨hv, he, hn, insB_yes ?_, by unfold nW; simp, by unfold nW; simp⟩
  unfold nL nW mn mx
  omega
end Go.Proofs.Ytnipnemhbelcaaa
