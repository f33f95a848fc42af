/- StyleBox of the program and of the reference, walked. Condition: the tree can be read. -/
import Derived.Test.YtnihklilappimaaPartS
import Derived.Test.YtnihklilappimaaDrawTt
import Derived.Test.YtnihklilappimaaTreeE
namespace Go.Proofs.Ytnihklilappimaa
open Go.RowKit

/-- The tree in which a box has another style. -/
def styL (zs : List Int) (a : Nat) (p b1 b2 b3 b4 b5 b6 b7 b8 : Int) : List Int := ((((((((zs.set (a * 9) (p)).set (a * 9 + 1) b1).set (a * 9 + 2) b2).set (a * 9 + 3) b3).set (a * 9 + 4) b4).set (a * 9 + 5) b5).set (a * 9 + 6) b6).set (a * 9 + 7) b7).set (a * 9 + 8) b8
theorem styL_len (zs : List Int) (a : Nat) (p b1 b2 b3 b4 b5 b6 b7 b8 : Int) : (styL zs a p b1 b2 b3 b4 b5 b6 b7 b8).length = zs.length := by simp [styL]
def styOk (n : Nat) (zs : List Int) (at_ b1 b2 b3 b4 b5 b6 b7 b8 : Int) : Bool := nodeOk n zs at_ && vtB n (styL zs at_.toNat (par zs at_.toNat) b1 b2 b3 b4 b5 b6 b7 b8)
def styA (n : Nat) (zs : List Int) (at_ b1 b2 b3 b4 b5 b6 b7 b8 : Int) : List Int := if styOk n zs at_ b1 b2 b3 b4 b5 b6 b7 b8 = true then styL zs at_.toNat (par zs at_.toNat) b1 b2 b3 b4 b5 b6 b7 b8 else []
theorem styA_len {n : Nat} {zs : List Int} (hz : zs.length = n * 9) (at_ b1 b2 b3 b4 b5 b6 b7 b8 : Int) : (styA n zs at_ b1 b2 b3 b4 b5 b6 b7 b8).length ≤ 144 := by
  unfold styA
  split
  · next h =>
    unfold styOk at h
    rw [Bool.and_eq_true] at h
    have h16 := (vtB_iff.1 h.2).1
    rw [styL_len, hz]; omega
  · simp
theorem styNo {n : Nat} {zs : List Int} {at_ : Int} (h : nodeOk n zs at_ = false) (b1 b2 b3 b4 b5 b6 b7 b8 : Int) : styOk n zs at_ b1 b2 b3 b4 b5 b6 b7 b8 = false ∧ styA n zs at_ b1 b2 b3 b4 b5 b6 b7 b8 = [] := by
  have h1 : styOk n zs at_ b1 b2 b3 b4 b5 b6 b7 b8 = false := by unfold styOk; rw [h]; rfl
  exact ⟨h1, by unfold styA; rw [h1]; rfl⟩
theorem Row.sty {w : World} {g n a : Nat} {zs : List Int} (h : Row w g zs) (hz : zs.length = n * 9) (ha : a < n) (p b1 b2 b3 b4 b5 b6 b7 b8 : Int) :
    Row (((((((((w.setCell ⟨g, a * 9, none⟩ (.int .i64 p)).setCell ⟨g, a * 9 + 1, none⟩ (.int .i64 b1)).setCell ⟨g, a * 9 + 2, none⟩ (.int .i64 b2)).setCell ⟨g, a * 9 + 3, none⟩ (.int .i64 b3)).setCell ⟨g, a * 9 + 4, none⟩ (.int .i64 b4)).setCell ⟨g, a * 9 + 5, none⟩ (.int .i64 b5)).setCell ⟨g, a * 9 + 6, none⟩ (.int .i64 b6)).setCell ⟨g, a * 9 + 7, none⟩ (.int .i64 b7)).setCell ⟨g, a * 9 + 8, none⟩ (.int .i64 b8)) g (styL zs a p b1 b2 b3 b4 b5 b6 b7 b8) := by
  unfold styL
  have r := h.set_ (k := a * 9) (by omega) p
  have r := r.set_ (k := a * 9 + 1) (by simp only [List.length_set]; omega) b1
  have r := r.set_ (k := a * 9 + 2) (by simp only [List.length_set]; omega) b2
  have r := r.set_ (k := a * 9 + 3) (by simp only [List.length_set]; omega) b3
  have r := r.set_ (k := a * 9 + 4) (by simp only [List.length_set]; omega) b4
  have r := r.set_ (k := a * 9 + 5) (by simp only [List.length_set]; omega) b5
  have r := r.set_ (k := a * 9 + 6) (by simp only [List.length_set]; omega) b6
  have r := r.set_ (k := a * 9 + 7) (by simp only [List.length_set]; omega) b7
  have r := r.set_ (k := a * 9 + 8) (by simp only [List.length_set]; omega) b8
  exact r
set_option maxHeartbeats 400000 in
theorem ifValidTree_any (A : Option Addr) (n c : Nat) (zs : List Int) (hn : n ≤ 1048576) (w : World) (hx : Sts 9 w A n zs) :
    Calls Try.prog 58 #[.slice A n c] w fun e w' => New w w' ∧ ((vtB n zs = false ∧ e = .returned (.tuple #[.slice none 0 0, .bool false])) ∨ (vtB n zs = true ∧ e = .returned (.tuple #[.slice A n c, .bool true]))) := by
  have CT := Lib.hid (ValidTree_any A n c zs hn w hx)
  clear hx
  cases hv : vtB n zs
  · go_enter Try.func58, Try.ntmps58
    go_wp2_with fail
    refine CT.out.mono ?_
    rw [hv]
    rintro e w1 ⟨rfl, h1⟩
    have N1 := Lib.hid h1
    clear h1
    go_wp2
    refine bodyPost_ret (v := .tuple #[.slice none 0 0, .bool false]) (by simp [results, Try.results58, go_sem]) rfl ?_
    exact ⟨N1.out, .inl ⟨by first | rfl | trivial, rfl⟩⟩
  · go_enter Try.func58, Try.ntmps58
    go_wp2_with fail
    refine CT.out.mono ?_
    rw [hv]
    rintro e w1 ⟨rfl, h1⟩
    have N1 := Lib.hid h1
    clear h1
    go_wp2
    refine bodyPost_ret (v := .tuple #[.slice A n c, .bool true]) (by simp [results, Try.results58, go_sem]) rfl ?_
    exact ⟨N1.out, .inr ⟨by first | rfl | trivial, rfl⟩⟩
end Go.Proofs.Ytnihklilappimaa
