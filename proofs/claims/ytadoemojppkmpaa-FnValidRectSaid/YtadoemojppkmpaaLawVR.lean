/- The law FnValidRect, walked: whatever the code of at most the longest length, it returns true and turns nothing old. Condition: the code's bytes can be read. -/
import Derived.Test.YtadoemojppkmpaaDraw
import Derived.Test.YtadoemojppkmpaaRectB
namespace Go.Proofs.Ytadoemojppkmpaa
open Go.RowKit

/-- What drawing one rectangle off a code leaves. -/
def Drawn1 (w : World) (e : Ending) (w' : World) : Prop := ∃ x y ww h : Int, e = .returned (rc x y ww h) ∧ Sm x ∧ Sm y ∧ Sm ww ∧ Sm h ∧ New w w'

set_option maxHeartbeats 400000 in
theorem DrawValidRect_any (A : Option Addr) (n c : Nat) (hn : n ≤ maxLen) (hnc : n ≤ c) (w : World) (hb : Bytes w A n) :
    Calls Try.prog 20 #[.slice A n c] w (Drawn1 w) := by
  have HB := Lib.hid hb
  clear hb
  go_enter Try.func20, Try.ntmps20
  go_wp2_with fail
  refine (newReader_any A n c hn hnc _ (HB.out.new (by (repeat (first | exact New.refl _ | assumption | refine New.alloc ?_ _ | refine New.drew ?_ | refine New.drewN ?_ _ | refine New.setCell ?_ (by first | omega | (simp; omega) | (simp; done)) _ | refine New.trans ?_ (by assumption)))))).mono ?_
  rintro e w1 ⟨rfl, ⟨m, hm, hR⟩, hN, hz⟩
  simp at hz hR
  have c1 := fun o => hN.cells w.heap.size o (by simp)
  have f1 := fun o => hN.marks w.heap.size o (by simp)
  have HR := Lib.hid hR; have HN := Lib.hid hN
  clear hR hN
  go_wp2_with fail
  refine (anyRect_any _ A m 0 (by omega) hm _ HR.out).mono ?_
  rintro e w2 ⟨x, y, ww, h, rfl, sx, sy, sw, sh, _, hG⟩
  have c2 := fun o => (only_cells hG w.heap.size o (by omega) (by omega)).trans (c1 o)
  have f2 := fun o => (only_marks hG w.heap.size o (by omega) (by omega)).trans (f1 o)
  simp [go_sem] at f2
  have hz2 := hG.size
  have hN2 := new_only ((New.refl w).alloc _ |>.trans HN.out) (by omega) hG
  have HN2 := Lib.hid hN2
  clear hG c1 f1 hN2
  go_wp2
  refine bodyPost_ret (v := rc x y ww h) (by simp [results, Try.results20, go_sem, c2]) rfl ?_
  exact ⟨x, y, ww, h, rfl, sx, sy, sw, sh, ((((HN2.out.setCell (by first | omega | (simp; omega) | (simp; done)) _).setCell (by first | omega | (simp; omega) | (simp; done)) _).setCell (by first | omega | (simp; omega) | (simp; done)) _).setCell (by first | omega | (simp; omega) | (simp; done)) _)⟩

theorem vR_flat {x y w h : Int} (hv : vR x y w h = true) : vR x y 0 h = true := by rw [vR_iff] at *; omega
theorem iR_flat (x y h : Int) : iR x y 0 h x y = false := by rw [iR_no]; omega

set_option maxHeartbeats 800000 in
theorem lawValidRect (A : Option Addr) (n c : Nat) (hn : n ≤ maxLen) (hnc : n ≤ c) (w : World) (hb : Bytes w A n) :
    Calls Try.prog 3 #[.slice A n c] w fun e w' => e = .returned (.bool true) ∧ New w w' := by
  have HB := Lib.hid hb
  clear hb
  have hn' := hn
  unfold maxLen at hn'
  by_cases hbig : 1048576 < n
  · go_enter Try.func3, Try.ntmps3
    go_wp2
    go_ret
    exact ⟨rfl, by (repeat (first | exact New.refl _ | assumption | refine New.alloc ?_ _ | refine New.drew ?_ | refine New.drewN ?_ _ | refine New.setCell ?_ (by first | omega | (simp; omega) | (simp; done)) _ | refine New.trans ?_ (by assumption)))⟩
  · go_enter Try.func3, Try.ntmps3
    go_wp2_with fail
    refine (DrawValidRect_any A n c hn hnc _ HB.out).mono ?_
    rintro e w1 ⟨x, y, ww, h, rfl, sx, sy, sw, sh, hN1⟩
    have HN1 := Lib.hid hN1
    clear hN1 sx sy sw sh
    cases hv : vR x y ww h
    · go_wp2_with (first
        | (go_at_call 21; refine (ValidRect_any _ _ _ _ _).mono ?_; rintro e w2 ⟨rfl, hb2⟩; (first | replace hN := hN.trans hb2 | replace hN := (hN.alloc _).trans hb2 | have hN := hb2); have hc2 := hN.cells; have hf2 := hN.marks; have hd2 := hb2.cells; have he2 := hb2.marks; have z0 : w1.heap.size < w2.heap.size := (by have := hN.le; first | omega | (simp at this; omega)))
        | (go_at_call 22; refine (SValidRect_any _ _ _ _ _).mono ?_; rintro e w2 ⟨rfl, hb2⟩; (first | replace hN := hN.trans hb2 | replace hN := (hN.alloc _).trans hb2 | have hN := hb2); have hc2 := hN.cells; have hf2 := hN.marks; have hd2 := hb2.cells; have he2 := hb2.marks; have z0 : w1.heap.size < w2.heap.size := (by have := hN.le; first | omega | (simp at this; omega))))
      go_ret
      exact ⟨rfl, HN1.out.trans (by (repeat (first | exact New.refl _ | assumption | refine New.alloc ?_ _ | refine New.drew ?_ | refine New.drewN ?_ _ | refine New.setCell ?_ (by first | omega | (simp; omega) | (simp; done)) _ | refine New.trans ?_ (by assumption))))⟩
    · have e1 := vR_flat hv
      have e2 := iR_flat x y h
      go_wp2_with (first
        | (go_at_call 21; refine (ValidRect_any _ _ _ _ _).mono ?_; rintro e w2 ⟨rfl, hb2⟩; (first | replace hN := hN.trans hb2 | replace hN := (hN.alloc _).trans hb2 | have hN := hb2); have hc2 := hN.cells; have hf2 := hN.marks; have hd2 := hb2.cells; have he2 := hb2.marks; have z0 : w1.heap.size < w2.heap.size := (by have := hN.le; first | omega | (simp at this; omega)))
        | (go_at_call 22; refine (SValidRect_any _ _ _ _ _).mono ?_; rintro e w2 ⟨rfl, hb2⟩; (first | replace hN := hN.trans hb2 | replace hN := (hN.alloc _).trans hb2 | have hN := hb2); have hc2 := hN.cells; have hf2 := hN.marks; have hd2 := hb2.cells; have he2 := hb2.marks; have z0 : w1.heap.size < w2.heap.size := (by have := hN.le; first | omega | (simp at this; omega)))
        | (go_at_call 23; refine (InRect_any _ _ _ _ _ _ _).mono ?_; rintro e w2 ⟨rfl, hb2⟩; (first | replace hN := hN.trans hb2 | replace hN := (hN.alloc _).trans hb2 | have hN := hb2); have hc2 := hN.cells; have hf2 := hN.marks; have hd2 := hb2.cells; have he2 := hb2.marks; have z0 : w1.heap.size < w2.heap.size := (by have := hN.le; first | omega | (simp at this; omega))))
      go_ret
      exact ⟨rfl, HN1.out.trans (by (repeat (first | exact New.refl _ | assumption | refine New.alloc ?_ _ | refine New.drew ?_ | refine New.drewN ?_ _ | refine New.setCell ?_ (by first | omega | (simp; omega) | (simp; done)) _ | refine New.trans ?_ (by assumption))))⟩

end Go.Proofs.Ytadoemojppkmpaa
