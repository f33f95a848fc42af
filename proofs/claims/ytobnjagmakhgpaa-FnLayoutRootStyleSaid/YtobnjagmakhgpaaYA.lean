/- Parts that belong together: Two, Meet, RectD, Hull, RectE, RectF, RectG. Conditions: as each part says. -/
import Derived.Test.YtobnjagmakhgpaaZR
/- What the two boxed rectangles and the result's variable hold while a common part or a hull is reckoned, and that it stays so. No condition. -/
namespace Go.Proofs.Ytobnjagmakhgpaa
open Go.RowKit

/-- What the two boxed rectangles and the result's variable hold while a common part or a hull is reckoned. -/
abbrev Two (w : World) (ax ay aw ah bx by' bw bh : Int) (w' : World) : Prop := New w w' ∧ w'.cell? ⟨w.heap.size, 0, none⟩ = some (.int .i64 ax) ∧ w'.cell? ⟨w.heap.size, 1, none⟩ = some (.int .i64 ay) ∧ w'.cell? ⟨w.heap.size, 2, none⟩ = some (.int .i64 aw) ∧ w'.cell? ⟨w.heap.size, 3, none⟩ = some (.int .i64 ah) ∧ w'.cell? ⟨w.heap.size + 1, 0, none⟩ = some (.int .i64 bx) ∧ w'.cell? ⟨w.heap.size + 1, 1, none⟩ = some (.int .i64 by') ∧ w'.cell? ⟨w.heap.size + 1, 2, none⟩ = some (.int .i64 bw) ∧ w'.cell? ⟨w.heap.size + 1, 3, none⟩ = some (.int .i64 bh) ∧ w'.cell? ⟨w.heap.size + 1 + 1, 0, none⟩ = some (cv w' ⟨w.heap.size + 1 + 1, 0, none⟩) ∧ w'.cell? ⟨w.heap.size + 1 + 1, 1, none⟩ = some (cv w' ⟨w.heap.size + 1 + 1, 1, none⟩) ∧ w'.cell? ⟨w.heap.size + 1 + 1, 2, none⟩ = some (cv w' ⟨w.heap.size + 1 + 1, 2, none⟩) ∧ w'.cell? ⟨w.heap.size + 1 + 1, 3, none⟩ = some (cv w' ⟨w.heap.size + 1 + 1, 3, none⟩) ∧ w'.frozen? ⟨w.heap.size + 1 + 1, 0, none⟩ = false ∧ w'.frozen? ⟨w.heap.size + 1 + 1, 1, none⟩ = false ∧ w'.frozen? ⟨w.heap.size + 1 + 1, 2, none⟩ = false ∧ w'.frozen? ⟨w.heap.size + 1 + 1, 3, none⟩ = false ∧ w.heap.size + 1 + 1 < w'.heap.size
section
variable {w w1 w2 : World} {ax ay aw ah bx by' bw bh : Int}
theorem two_keep (hb : New w1 w2) (h : Two w ax ay aw ah bx by' bw bh w1) : Two w ax ay aw ah bx by' bw bh w2 := by
  obtain ⟨h0, h1, h2, h3, h4, h5, h6, h7, h8, h9, h10, h11, h12, h13, h14, h15, h16, h17⟩ := h
  have hz := hb.le
  have c := hb.cells
  have m := hb.marks
  refine ⟨h0.trans hb, (c _ _ (by omega)).trans h1, (c _ _ (by omega)).trans h2, (c _ _ (by omega)).trans h3, (c _ _ (by omega)).trans h4, (c _ _ (by omega)).trans h5, (c _ _ (by omega)).trans h6, (c _ _ (by omega)).trans h7, (c _ _ (by omega)).trans h8,
    cv_of ?_, cv_of ?_, cv_of ?_, cv_of ?_, (m _ _ (by omega)).trans h13, (m _ _ (by omega)).trans h14, (m _ _ (by omega)).trans h15, (m _ _ (by omega)).trans h16, by omega⟩
  · rw [c _ _ (by omega), h9]; rfl
  · rw [c _ _ (by omega), h10]; rfl
  · rw [c _ _ (by omega), h11]; rfl
  · rw [c _ _ (by omega), h12]; rfl
theorem two_set {i : Nat} {u : Value} (h : Two w ax ay aw ah bx by' bw bh w1) : Two w ax ay aw ah bx by' bw bh (w1.setCell ⟨w.heap.size + 1 + 1, i, none⟩ u) := by
  obtain ⟨h0, h1, h2, h3, h4, h5, h6, h7, h8, h9, h10, h11, h12, h13, h14, h15, h16, h17⟩ := h
  have c : ∀ k o, k < w.heap.size + 1 + 1 → (w1.setCell ⟨w.heap.size + 1 + 1, i, none⟩ u).cell? ⟨k, o, none⟩ = w1.cell? ⟨k, o, none⟩ := fun k o hk => World.cell?_of_block (Below.heap_setCell _ _ _ _ (by simp; omega))
  have m : ∀ o, (w1.setCell ⟨w.heap.size + 1 + 1, i, none⟩ u).frozen? ⟨w.heap.size + 1 + 1, o, none⟩ = w1.frozen? ⟨w.heap.size + 1 + 1, o, none⟩ := fun o => by simp [go_sem]
  exact ⟨h0.setCell (by simp; omega) u, (c _ _ (by omega)).trans h1, (c _ _ (by omega)).trans h2, (c _ _ (by omega)).trans h3, (c _ _ (by omega)).trans h4, (c _ _ (by omega)).trans h5, (c _ _ (by omega)).trans h6, (c _ _ (by omega)).trans h7, (c _ _ (by omega)).trans h8,
    cv_set h9, cv_set h10, cv_set h11, cv_set h12, (m _).trans h13, (m _).trans h14, (m _).trans h15, (m _).trans h16, by simpa [World.setCell] using h17⟩
theorem two_store {u0 u1 u2 u3 : Value} (h : Two w ax ay aw ah bx by' bw bh w1) : Two w ax ay aw ah bx by' bw bh ((((w1.setCell ⟨w.heap.size + 1 + 1, 0, none⟩ u0).setCell ⟨w.heap.size + 1 + 1, 1, none⟩ u1).setCell ⟨w.heap.size + 1 + 1, 2, none⟩ u2).setCell ⟨w.heap.size + 1 + 1, 3, none⟩ u3) :=
  two_set (two_set (two_set (two_set h)))
end


end Go.Proofs.Ytobnjagmakhgpaa

/- The common part of two valid rectangles, as the program reckons it. Condition: both are valid. -/
namespace Go.Proofs.Ytobnjagmakhgpaa
open Go.RowKit

end Go.Proofs.Ytobnjagmakhgpaa

/- The exported functions on rectangles, of the program and of the reference: common parts. No condition. -/
namespace Go.Proofs.Ytobnjagmakhgpaa
open Go.RowKit

end Go.Proofs.Ytobnjagmakhgpaa

/- The hull of two valid rectangles, as the program reckons it. Condition: both are valid. -/
namespace Go.Proofs.Ytobnjagmakhgpaa
open Go.RowKit

end Go.Proofs.Ytobnjagmakhgpaa

/- The exported functions on rectangles, of the program and of the reference: hulls. No condition. -/
namespace Go.Proofs.Ytobnjagmakhgpaa
open Go.RowKit

end Go.Proofs.Ytobnjagmakhgpaa

/- The exported functions on rectangles, of the program and of the reference: insets. No condition. -/
namespace Go.Proofs.Ytobnjagmakhgpaa
open Go.RowKit

/-- An edge is in its range. -/
def eB (e : Int) : Bool := decide (0 ≤ e ∧ e ≤ 50)
theorem eB_iff {e : Int} : eB e = true ↔ 0 ≤ e ∧ e ≤ 50 := by unfold eB; simp
theorem within_e (n : Int) (w : World) : Calls Try.prog 39 #[.int .i64 n, .int .i64 0, .int .i64 50] w fun e w' => e = .returned (.bool (eB n)) ∧ w = w' := within_any n 0 50 w
theorem inRange_e (n : Int) (w : World) : Calls Try.prog 42 #[.int .i64 n, .int .i64 0, .int .i64 50] w fun e w' => e = .returned (.bool (eB n)) ∧ w = w' := inRange_any n 0 50 w
theorem inset_e (x y ww h ed : Int) (w : World) (hv : vR x y ww h = true) (he : eB ed = true) :
    Calls Try.prog 75 #[rc x y ww h, .int .i64 ed] w fun e w' => e = .returned (rc (nL x ww ed) (nL y h ed) (nW ww ed) (nW h ed)) ∧ New w w' := inset_any x y ww h ed w hv (eB_iff.1 he).1 (eB_iff.1 he).2
theorem sinset_e (x y ww h ed : Int) (w : World) (hv : vR x y ww h = true) (he : eB ed = true) :
    Calls Try.prog 96 #[rc x y ww h, .int .i64 ed] w fun e w' => e = .returned (rc (nL x ww ed) (nL y h ed) (nW ww ed) (nW h ed)) ∧ New w w' := sinset_any x y ww h ed w hv (eB_iff.1 he).1 (eB_iff.1 he).2

end Go.Proofs.Ytobnjagmakhgpaa

/- The exported functions on rectangles, each told once: the program and the reference give the same four numbers and the same truth value. No condition. -/
namespace Go.Proofs.Ytobnjagmakhgpaa
open Go.RowKit

/-- A number that is shown only where a test holds. -/
def ifB (b : Bool) (n : Int) : Int := if b then n else 0
theorem ifB_yes {b : Bool} (h : b = true) (n : Int) : ifB b n = n := by rw [h]; rfl
theorem ifB_no {b : Bool} (h : b = false) (n : Int) : ifB b n = 0 := by rw [h]; rfl
/-- Common parts. -/
def mA (ax ay aw ah bx by' bw bh : Int) : Int := ifB (mOk ax ay aw ah bx by' bw bh) (mx ax bx)
def mB (ax ay aw ah bx by' bw bh : Int) : Int := ifB (mOk ax ay aw ah bx by' bw bh) (mx ay by')
def mC (ax ay aw ah bx by' bw bh : Int) : Int := ifB (mOk ax ay aw ah bx by' bw bh) (mW ax aw bx bw)
def mD (ax ay aw ah bx by' bw bh : Int) : Int := ifB (mOk ax ay aw ah bx by' bw bh) (mW ay ah by' bh)
/-- Hulls. -/
def uA (ax ay aw ah bx by' bw bh : Int) : Int := ifB (uOk ax ay aw ah bx by' bw bh) (mn ax bx)
def uB (ax ay aw ah bx by' bw bh : Int) : Int := ifB (uOk ax ay aw ah bx by' bw bh) (mn ay by')
def uC (ax ay aw ah bx by' bw bh : Int) : Int := ifB (uOk ax ay aw ah bx by' bw bh) (uW ax aw bx bw)
def uD (ax ay aw ah bx by' bw bh : Int) : Int := ifB (uOk ax ay aw ah bx by' bw bh) (uW ay ah by' bh)
/-- Insets. -/
def iOk (x y w h e : Int) : Bool := vR x y w h && eB e && vR (nL x w e) (nL y h e) (nW w e) (nW h e)
def nA (x y w h e : Int) : Int := ifB (iOk x y w h e) (nL x w e)
def nB (x y w h e : Int) : Int := ifB (iOk x y w h e) (nL y h e)
def nC (x y w h e : Int) : Int := ifB (iOk x y w h e) (nW w e)
def nD (x y w h e : Int) : Int := ifB (iOk x y w h e) (nW h e)

end Go.Proofs.Ytobnjagmakhgpaa
