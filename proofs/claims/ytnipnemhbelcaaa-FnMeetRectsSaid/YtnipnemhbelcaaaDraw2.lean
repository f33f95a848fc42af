/- Two drawn rectangles, and a drawn rectangle with an edge: what the draws leave. Condition: the code's bytes can be read. -/
import Derived.Test.YtnipnemhbelcaaaDraw
import Derived.Deep.RegionHeld3
namespace Go.Proofs.Ytnipnemhbelcaaa
open Go.RowKit

def Drawn2 (w : World) (e : Ending) (w' : World) : Prop := ∃ ax ay aw ah bx by' bw bh : Int, e = .returned (.tuple #[rc ax ay aw ah, rc bx by' bw bh]) ∧ New w w'

set_option maxHeartbeats 1600000 in
theorem DrawMeetRects_any (A : Option Addr) (n c : Nat) (hn : n ≤ maxLen) (hnc : n ≤ c) (w : World) (hb : Bytes w A n) :
    Calls Try.prog 8 #[.slice A n c] w (Drawn2 w) := by
  have HB := Lib.hid hb
  clear hb
  go_enter Try.func8, Try.ntmps8
  go_wp2_with fail
  refine (newReader_any A n c hn hnc _ (HB.out.new (by (repeat (first | exact New.refl _ | assumption | refine New.alloc ?_ _ | refine New.drew ?_ | refine New.drewN ?_ _ | refine New.setCell ?_ (by first | omega | (simp; omega) | (simp; done)) _ | refine New.trans ?_ (by assumption)))))).mono ?_
  rintro e w1 ⟨rfl, ⟨m, hm, hR⟩, hN, hz⟩
  simp at hz hR
  have c1 := fun o => hN.cells w.heap.size o (by first | omega | (simp; omega) | (simp; done))
  have f1 := fun o => hN.marks w.heap.size o (by first | omega | (simp; omega) | (simp; done))
  have c1' := fun o => hN.cells (w.heap.size + 1) o (by first | omega | (simp; omega) | (simp; done))
  have f1' := fun o => hN.marks (w.heap.size + 1) o (by first | omega | (simp; omega) | (simp; done))
  have HR := Lib.hid hR; have HN := Lib.hid hN
  clear hR hN
  go_wp2_with fail
  refine (anyRect_any _ A m 0 (by omega) hm _ HR.out).mono ?_
  rintro e w2 ⟨ax, ay, aw, ah, rfl, sx, sy, sw, sh, ⟨q, q1, q2, hR2⟩, hG⟩
  have c2 := fun o => (only_cells hG w.heap.size o (by omega) (by omega)).trans (c1 o)
  have f2 := fun o => (only_marks hG w.heap.size o (by omega) (by omega)).trans (f1 o)
  have c2' := fun o => (only_cells hG (w.heap.size + 1) o (by omega) (by omega)).trans (c1' o)
  have f2' := fun o => (only_marks hG (w.heap.size + 1) o (by omega) (by omega)).trans (f1' o)
  simp [go_sem] at f2 f2'
  have hz2 := hG.size
  have hz2' : w.heap.size + 1 + 1 < w2.heap.size := by omega
  have s0 : w.heap.size < w2.heap.size := by omega
  have s1 : w.heap.size + 1 < w2.heap.size := by omega
  have HR2 := Lib.hid hR2; have HG := Lib.hid hG
  clear hG c1 f1 c1' f1' hR2 sx sy sw sh
  go_wp2_with fail
  go_region_held3 (fun w' => w'.cell? ⟨w2.heap.size, 0, none⟩ = some (.int .i64 ax) ∧ w'.cell? ⟨w2.heap.size, 1, none⟩ = some (.int .i64 ay) ∧ w'.cell? ⟨w2.heap.size, 2, none⟩ = some (.int .i64 aw) ∧ w'.cell? ⟨w2.heap.size, 3, none⟩ = some (.int .i64 ah))
    (first
      | (simp [go_sem]; done)
      | (simp [cB3]; done)
      | (simp [cB3, World.cell?_setCell_far, zA3, zA3']; done))
    (first
      | (go_at_call 26
         refine (anyRect_any (w.heap.size + 1 + 1) A m q (by omega) hm _ ((HR2.out.new ((New.refl w2).alloc _)).drew)).mono ?_
         rintro e w3 ⟨bx, by', bw, bh, rfl, tx, ty, tw, th, ⟨q3, q4, q5, hR3⟩, hG3⟩
         have cB3 := fun o => only_cells hG3 w2.heap.size o (by first | omega | (simp; omega) | (simp; done)) (by omega)
         have cA3 := fun o => ((only_cells hG3 w.heap.size o (by first | omega | (simp; omega) | (simp; done)) (by omega)).trans (World.cell?_alloc_lt w2 _ ⟨w.heap.size, o, none⟩ s0)).trans (c2 o)
         have fA3 := fun o => (only_marks hG3 w.heap.size o (by first | omega | (simp; omega) | (simp; done)) (by omega))
         have cA3' := fun o => ((only_cells hG3 (w.heap.size + 1) o (by first | omega | (simp; omega) | (simp; done)) (by omega)).trans (World.cell?_alloc_lt w2 _ ⟨w.heap.size + 1, o, none⟩ s1)).trans (c2' o)
         have fA3' := fun o => (only_marks hG3 (w.heap.size + 1) o (by first | omega | (simp; omega) | (simp; done)) (by omega))
         simp [go_sem] at cB3 fA3 fA3' cA3 cA3'
         have zB3 := hG3.size
         simp at zB3
         have zA3 : w.heap.size ≠ w2.heap.size := by omega
         have zA3' : w.heap.size + 1 ≠ w2.heap.size := by omega))
  go_wp2
  have N2 := new_only ((((New.refl w).alloc _).alloc _).trans HN.out) (by omega) HG.out
  have N3 := new_only ((N2.alloc _).drew) (by omega) hG3
  refine bodyPost_ret (v := .tuple #[rc ax ay aw ah, rc bx by' bw bh]) (by simp [results, Try.results8, go_sem, cA3, cA3']) rfl ?_
  exact ⟨ax, ay, aw, ah, bx, by', bw, bh, rfl, ((((((((N3).setCell (by first | omega | (simp; omega) | (simp; done)) _).setCell (by first | omega | (simp; omega) | (simp; done)) _).setCell (by first | omega | (simp; omega) | (simp; done)) _).setCell (by first | omega | (simp; omega) | (simp; done)) _).setCell (by first | omega | (simp; omega) | (simp; done)) _).setCell (by first | omega | (simp; omega) | (simp; done)) _).setCell (by first | omega | (simp; omega) | (simp; done)) _).setCell (by first | omega | (simp; omega) | (simp; done)) _⟩

set_option maxHeartbeats 400000 in
theorem DrawHullOf_any (A : Option Addr) (n c : Nat) (hn : n ≤ maxLen) (hnc : n ≤ c) (w : World) (hb : Bytes w A n) :
    Calls Try.prog 13 #[.slice A n c] w (Drawn2 w) := by
  have HB := Lib.hid hb
  clear hb
  go_enter Try.func13, Try.ntmps13
  go_wp2_with fail
  refine (DrawMeetRects_any A n c hn hnc _ (HB.out.new (by (repeat (first | exact New.refl _ | assumption | refine New.alloc ?_ _ | refine New.drew ?_ | refine New.drewN ?_ _ | refine New.setCell ?_ (by first | omega | (simp; omega) | (simp; done)) _ | refine New.trans ?_ (by assumption)))))).mono ?_
  rintro e w1 ⟨ax, ay, aw, ah, bx, by', bw, bh, rfl, hN⟩
  have c1 := fun o => hN.cells w.heap.size o (by first | omega | (simp; omega) | (simp; done))
  have f1 := fun o => hN.marks w.heap.size o (by first | omega | (simp; omega) | (simp; done))
  have c1' := fun o => hN.cells (w.heap.size + 1) o (by first | omega | (simp; omega) | (simp; done))
  have f1' := fun o => hN.marks (w.heap.size + 1) o (by first | omega | (simp; omega) | (simp; done))
  simp [go_sem] at c1 f1 c1' f1'
  have HN := Lib.hid hN
  clear hN
  go_wp2
  refine bodyPost_ret (v := .tuple #[rc ax ay aw ah, rc bx by' bw bh]) (by simp [results, Try.results13, go_sem, c1, c1']) rfl ?_
  have N3 := (((New.refl w).alloc _).alloc _).trans HN.out
  exact ⟨ax, ay, aw, ah, bx, by', bw, bh, rfl, ((((((((N3).setCell (by first | omega | (simp; omega) | (simp; done)) _).setCell (by first | omega | (simp; omega) | (simp; done)) _).setCell (by first | omega | (simp; omega) | (simp; done)) _).setCell (by first | omega | (simp; omega) | (simp; done)) _).setCell (by first | omega | (simp; omega) | (simp; done)) _).setCell (by first | omega | (simp; omega) | (simp; done)) _).setCell (by first | omega | (simp; omega) | (simp; done)) _).setCell (by first | omega | (simp; omega) | (simp; done)) _⟩

end Go.Proofs.Ytnipnemhbelcaaa
