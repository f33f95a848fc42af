/- The exported functions on rectangles, each told once: the program and the reference give the same four numbers and the same truth value. No condition. -/
import Derived.Test.YtnipnemhbelcaaaRectD
import Derived.Test.YtnipnemhbelcaaaRectE
import Derived.Test.YtnipnemhbelcaaaRectF
namespace Go.Proofs.Ytnipnemhbelcaaa
open Go.RowKit

/-- A number that is shown only where a test holds. -/
def ifB (b : Bool) (n : Int) : Int := if b then n else 0
theorem ifB_yes {b : Bool} (h : b = true) (n : Int) : ifB b n = n := by rw [h]; rfl
theorem ifB_no {b : Bool} (h : b = false) (n : Int) : ifB b n = 0 := by rw [h]; rfl
/-- Common parts. -/
def mA (ax ay aw ah bx by' bw bh : Int) : Int := ifB (mOk ax ay aw ah bx by' bw bh) (mx ax bx)
def mB (ax ay aw ah bx by' bw bh : Int) : Int := ifB (mOk ax ay aw ah bx by' bw bh) (mx ay by')
def mC (ax ay aw ah bx by' bw bh : Int) : Int := ifB (mOk ax ay aw ah bx by' bw bh) (mW ax aw bx bw)
def mD (ax ay aw ah bx by' bw bh : Int) : Int := ifB (mOk ax ay aw ah bx by' bw bh) (mW ay ah by' bh)
/-- Hulls. -/
def uA (ax ay aw ah bx by' bw bh : Int) : Int := ifB (uOk ax ay aw ah bx by' bw bh) (mn ax bx)
def uB (ax ay aw ah bx by' bw bh : Int) : Int := ifB (uOk ax ay aw ah bx by' bw bh) (mn ay by')
def uC (ax ay aw ah bx by' bw bh : Int) : Int := ifB (uOk ax ay aw ah bx by' bw bh) (uW ax aw bx bw)
def uD (ax ay aw ah bx by' bw bh : Int) : Int := ifB (uOk ax ay aw ah bx by' bw bh) (uW ay ah by' bh)
/-- Insets. -/
def iOk (x y w h e : Int) : Bool := vR x y w h && eB e && vR (nL x w e) (nL y h e) (nW w e) (nW h e)
def nA (x y w h e : Int) : Int := ifB (iOk x y w h e) (nL x w e)
def nB (x y w h e : Int) : Int := ifB (iOk x y w h e) (nL y h e)
def nC (x y w h e : Int) : Int := ifB (iOk x y w h e) (nW w e)
def nD (x y w h e : Int) : Int := ifB (iOk x y w h e) (nW h e)

theorem MeetRects_any (ax ay aw ah bx by' bw bh : Int) (w : World) :
    Calls Try.prog 9 #[rc ax ay aw ah, rc bx by' bw bh] w fun e w' => e = .returned (.tuple #[rc (mA ax ay aw ah bx by' bw bh) (mB ax ay aw ah bx by' bw bh) (mC ax ay aw ah bx by' bw bh) (mD ax ay aw ah bx by' bw bh), .bool (mOk ax ay aw ah bx by' bw bh)]) ∧ New w w' := by
  have no : mOk ax ay aw ah bx by' bw bh = false → ∀ e : Ending, e = .returned (.tuple #[rc 0 0 0 0, .bool false]) → e = .returned (.tuple #[rc (mA ax ay aw ah bx by' bw bh) (mB ax ay aw ah bx by' bw bh) (mC ax ay aw ah bx by' bw bh) (mD ax ay aw ah bx by' bw bh), .bool (mOk ax ay aw ah bx by' bw bh)]) := fun h e he => by
    rw [he]; unfold mA mB mC mD; rw [ifB_no h, ifB_no h, ifB_no h, ifB_no h, h]
  cases ha : vR ax ay aw ah
  · exact (Meet_a ax ay aw ah bx by' bw bh w ha).mono fun e w' ⟨he, hN⟩ => ⟨no (by unfold mOk; rw [ha]; rfl) e he, hN⟩
  cases hb : vR bx by' bw bh
  · exact (Meet_b ax ay aw ah bx by' bw bh w ha hb).mono fun e w' ⟨he, hN⟩ => ⟨no (by unfold mOk; rw [ha, hb]; rfl) e he, hN⟩
  by_cases h1 : 0 < mW ax aw bx bw
  · by_cases h2 : 0 < mW ay ah by' bh
    · have ok : mOk ax ay aw ah bx by' bw bh = true := mOk_iff.2 ⟨ha, hb, h1, h2⟩
      refine (Meet_yes ax ay aw ah bx by' bw bh w ha hb h1 h2).mono fun e w' ⟨he, hN⟩ => ⟨?_, hN⟩
      rw [he]; unfold mA mB mC mD; rw [ifB_yes ok, ifB_yes ok, ifB_yes ok, ifB_yes ok, ok]
    · exact (Meet_d ax ay aw ah bx by' bw bh w ha hb h1 (by omega)).mono fun e w' ⟨he, hN⟩ => ⟨no (Bool.eq_false_iff.2 fun hm => absurd (mOk_iff.1 hm).2.2.2 h2) e he, hN⟩
  · exact (Meet_c ax ay aw ah bx by' bw bh w ha hb (by omega)).mono fun e w' ⟨he, hN⟩ => ⟨no (Bool.eq_false_iff.2 fun hm => absurd (mOk_iff.1 hm).2.2.1 h1) e he, hN⟩

theorem SMeetRects_any (ax ay aw ah bx by' bw bh : Int) (w : World) :
    Calls Try.prog 10 #[rc ax ay aw ah, rc bx by' bw bh] w fun e w' => e = .returned (.tuple #[rc (mA ax ay aw ah bx by' bw bh) (mB ax ay aw ah bx by' bw bh) (mC ax ay aw ah bx by' bw bh) (mD ax ay aw ah bx by' bw bh), .bool (mOk ax ay aw ah bx by' bw bh)]) ∧ New w w' := by
  have no : mOk ax ay aw ah bx by' bw bh = false → ∀ e : Ending, e = .returned (.tuple #[rc 0 0 0 0, .bool false]) → e = .returned (.tuple #[rc (mA ax ay aw ah bx by' bw bh) (mB ax ay aw ah bx by' bw bh) (mC ax ay aw ah bx by' bw bh) (mD ax ay aw ah bx by' bw bh), .bool (mOk ax ay aw ah bx by' bw bh)]) := fun h e he => by
    rw [he]; unfold mA mB mC mD; rw [ifB_no h, ifB_no h, ifB_no h, ifB_no h, h]
  cases ha : vR ax ay aw ah
  · exact (SMeet_a ax ay aw ah bx by' bw bh w ha).mono fun e w' ⟨he, hN⟩ => ⟨no (by unfold mOk; rw [ha]; rfl) e he, hN⟩
  cases hb : vR bx by' bw bh
  · exact (SMeet_b ax ay aw ah bx by' bw bh w ha hb).mono fun e w' ⟨he, hN⟩ => ⟨no (by unfold mOk; rw [ha, hb]; rfl) e he, hN⟩
  by_cases h1 : 0 < mW ax aw bx bw
  · by_cases h2 : 0 < mW ay ah by' bh
    · have ok : mOk ax ay aw ah bx by' bw bh = true := mOk_iff.2 ⟨ha, hb, h1, h2⟩
      refine (SMeet_yes ax ay aw ah bx by' bw bh w ha hb h1 h2).mono fun e w' ⟨he, hN⟩ => ⟨?_, hN⟩
      rw [he]; unfold mA mB mC mD; rw [ifB_yes ok, ifB_yes ok, ifB_yes ok, ifB_yes ok, ok]
    · exact (SMeet_d ax ay aw ah bx by' bw bh w ha hb h1 (by omega)).mono fun e w' ⟨he, hN⟩ => ⟨no (Bool.eq_false_iff.2 fun hm => absurd (mOk_iff.1 hm).2.2.2 h2) e he, hN⟩
  · exact (SMeet_c ax ay aw ah bx by' bw bh w ha hb (by omega)).mono fun e w' ⟨he, hN⟩ => ⟨no (Bool.eq_false_iff.2 fun hm => absurd (mOk_iff.1 hm).2.2.1 h1) e he, hN⟩

theorem HullOf_any (ax ay aw ah bx by' bw bh : Int) (w : World) :
    Calls Try.prog 14 #[rc ax ay aw ah, rc bx by' bw bh] w fun e w' => e = .returned (.tuple #[rc (uA ax ay aw ah bx by' bw bh) (uB ax ay aw ah bx by' bw bh) (uC ax ay aw ah bx by' bw bh) (uD ax ay aw ah bx by' bw bh), .bool (uOk ax ay aw ah bx by' bw bh)]) ∧ New w w' := by
  have no : uOk ax ay aw ah bx by' bw bh = false → ∀ e : Ending, e = .returned (.tuple #[rc 0 0 0 0, .bool false]) → e = .returned (.tuple #[rc (uA ax ay aw ah bx by' bw bh) (uB ax ay aw ah bx by' bw bh) (uC ax ay aw ah bx by' bw bh) (uD ax ay aw ah bx by' bw bh), .bool (uOk ax ay aw ah bx by' bw bh)]) := fun h e he => by
    rw [he]; unfold uA uB uC uD; rw [ifB_no h, ifB_no h, ifB_no h, ifB_no h, h]
  cases ha : vR ax ay aw ah
  · exact (Hull_a ax ay aw ah bx by' bw bh w ha).mono fun e w' ⟨he, hN⟩ => ⟨no (by unfold uOk; rw [ha]; rfl) e he, hN⟩
  cases hb : vR bx by' bw bh
  · exact (Hull_b ax ay aw ah bx by' bw bh w ha hb).mono fun e w' ⟨he, hN⟩ => ⟨no (by unfold uOk; rw [ha, hb]; rfl) e he, hN⟩
  cases hc : vR (mn ax bx) (mn ay by') (uW ax aw bx bw) (uW ay ah by' bh)
  · exact (Hull_c ax ay aw ah bx by' bw bh w ha hb hc).mono fun e w' ⟨he, hN⟩ => ⟨no (by unfold uOk; rw [ha, hb, hc]; rfl) e he, hN⟩
  · have ok : uOk ax ay aw ah bx by' bw bh = true := uOk_iff.2 ⟨ha, hb, hc⟩
    refine (Hull_yes ax ay aw ah bx by' bw bh w ha hb hc).mono fun e w' ⟨he, hN⟩ => ⟨?_, hN⟩
    rw [he]; unfold uA uB uC uD; rw [ifB_yes ok, ifB_yes ok, ifB_yes ok, ifB_yes ok, ok]

theorem SHullOf_any (ax ay aw ah bx by' bw bh : Int) (w : World) :
    Calls Try.prog 15 #[rc ax ay aw ah, rc bx by' bw bh] w fun e w' => e = .returned (.tuple #[rc (uA ax ay aw ah bx by' bw bh) (uB ax ay aw ah bx by' bw bh) (uC ax ay aw ah bx by' bw bh) (uD ax ay aw ah bx by' bw bh), .bool (uOk ax ay aw ah bx by' bw bh)]) ∧ New w w' := by
  have no : uOk ax ay aw ah bx by' bw bh = false → ∀ e : Ending, e = .returned (.tuple #[rc 0 0 0 0, .bool false]) → e = .returned (.tuple #[rc (uA ax ay aw ah bx by' bw bh) (uB ax ay aw ah bx by' bw bh) (uC ax ay aw ah bx by' bw bh) (uD ax ay aw ah bx by' bw bh), .bool (uOk ax ay aw ah bx by' bw bh)]) := fun h e he => by
    rw [he]; unfold uA uB uC uD; rw [ifB_no h, ifB_no h, ifB_no h, ifB_no h, h]
  cases ha : vR ax ay aw ah
  · exact (SHull_a ax ay aw ah bx by' bw bh w ha).mono fun e w' ⟨he, hN⟩ => ⟨no (by unfold uOk; rw [ha]; rfl) e he, hN⟩
  cases hb : vR bx by' bw bh
  · exact (SHull_b ax ay aw ah bx by' bw bh w ha hb).mono fun e w' ⟨he, hN⟩ => ⟨no (by unfold uOk; rw [ha, hb]; rfl) e he, hN⟩
  cases hc : vR (mn ax bx) (mn ay by') (uW ax aw bx bw) (uW ay ah by' bh)
  · exact (SHull_c ax ay aw ah bx by' bw bh w ha hb hc).mono fun e w' ⟨he, hN⟩ => ⟨no (by unfold uOk; rw [ha, hb, hc]; rfl) e he, hN⟩
  · have ok : uOk ax ay aw ah bx by' bw bh = true := uOk_iff.2 ⟨ha, hb, hc⟩
    refine (SHull_yes ax ay aw ah bx by' bw bh w ha hb hc).mono fun e w' ⟨he, hN⟩ => ⟨?_, hN⟩
    rw [he]; unfold uA uB uC uD; rw [ifB_yes ok, ifB_yes ok, ifB_yes ok, ifB_yes ok, ok]

end Go.Proofs.Ytnipnemhbelcaaa
