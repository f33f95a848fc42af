/- The drawn rectangles: each draw returns four small numbers, moves the reader on, and turns nothing else. Conditions: the reader's bytes lie in an elder block; fewer than 900000 draws. -/
import Derived.Test.YtnipnemhbelcaaaReader
import Derived.Test.YtnipnemhbelcaaaRect
namespace Go.Proofs.Ytnipnemhbelcaaa
open Go.RowKit

/-- A number that is far from where arithmetic goes round. -/
def Sm (n : Int) : Prop := -300000 ≤ n ∧ n ≤ 300000
theorem sm_mem {zs : List Int} {z : Int} (h : z ∈ zs) (hz : ∀ y ∈ zs, -300000 ≤ y ∧ y ≤ 300000) : Sm z := hz z h

theorem lit_cells2 (zs : List Int) (w : World) (t : TypeId) (B : Nat) (hB : w.heap.size = B) : ∀ i, i < zs.length → (w.alloc (.cells (zs.map (Value.int .i64)).toArray t)).drew.cell? ⟨B, i, none⟩ = some (.int .i64 (zs.getD i 0)) := fun i hi => by
  subst hB; exact lit_cells zs w t i hi

/-- What drawing a rectangle leaves. -/
def DrawnRect (w : World) (a : Nat) (A : Option Addr) (m p : Nat) (e : Ending) (w' : World) : Prop :=
  ∃ x y ww h : Int, e = .returned (rc x y ww h) ∧ Sm x ∧ Sm y ∧ Sm ww ∧ Sm h ∧ (∃ q, p ≤ q ∧ q ≤ p + 10 ∧ Rdr w' a A m q) ∧ w.grownBy w' (some a)

/-- What drawing any rectangle leaves. -/
def DrawnRect2 (w : World) (a : Nat) (A : Option Addr) (m p : Nat) (e : Ending) (w' : World) : Prop :=
  ∃ x y ww h : Int, e = .returned (rc x y ww h) ∧ Sm x ∧ Sm y ∧ Sm ww ∧ Sm h ∧ (∃ q, p ≤ q ∧ q ≤ p + 20 ∧ Rdr w' a A m q) ∧ w.grownBy w' (some a)

set_option maxHeartbeats 800000 in
theorem someRect_any (a : Nat) (A : Option Addr) (m p : Nat) (hp : p ≤ 900000) (hm : m ≤ 2000) (w : World) (h : Rdr w a A m p) :
    Calls Try.prog 50 #[.pointer (some ⟨a, 0, none⟩)] w (DrawnRect w a A m p) := by
  have hlt : a < w.heap.size := World.block_lt_of_cell? w ⟨a, 1, none⟩ h.pos
  have HR := Lib.hid h
  clear h
  go_enter Try.func50, Try.ntmps50
  go_wp2_with fail
  refine (pick_any 40 a A m p (by omega) hm _ (HR.out.new (by (repeat (first | exact New.refl _ | assumption | refine New.alloc ?_ _ | refine New.drew ?_ | refine New.drewN ?_ _ | refine New.setCell ?_ (by first | omega | (simp; omega) | (simp; done)) _ | refine New.trans ?_ (by assumption)))))).mono ?_
  rintro e w1 ⟨v1, rfl, l1, u1, hR1, hG1⟩
  have u1 := u1 (by omega)
  have HR1 := Lib.hid hR1; have HG1 := Lib.hid hG1; have z1 := hG1.size; simp at z1
  clear hR1 hG1
  go_wp2_with fail
  refine (pick_any 40 a A m (p + 1) (by omega) hm _ HR1.out).mono ?_
  rintro e w2 ⟨v2, rfl, l2, u2, hR2, hG2⟩
  have u2 := u2 (by omega)
  have HR2 := Lib.hid hR2; have HG2 := Lib.hid hG2; have z2 := hG2.size
  clear hR2 hG2
  go_wp2_with fail
  refine (one_any [10, 20, 1, 0, 5, 40] (by simp) (by simp) w2.heap.size 6 a A m (p + 1 + 1) (by omega) hm _ (HR2.out.new (by (repeat (first | exact New.refl _ | assumption | refine New.alloc ?_ _ | refine New.drew ?_ | refine New.drewN ?_ _ | refine New.setCell ?_ (by first | omega | (simp; omega) | (simp; done)) _ | refine New.trans ?_ (by assumption))))) (by omega) (by simp) (lit_cells [10, 20, 1, 0, 5, 40] _ _)).mono ?_
  rintro e w3 ⟨v3, rfl, i3, hR3, hG3⟩
  have s3 := sm_mem i3 (by simp)
  have HR3 := Lib.hid hR3; have HG3 := Lib.hid hG3; have z3 := hG3.size; simp at z3
  clear hR3 hG3 i3
  go_wp2_with fail
  refine (one_any [10, 20, 1, 0, 7, 40] (by simp) (by simp) w3.heap.size 6 a A m (p + 1 + 1 + 1) (by omega) hm _ (HR3.out.new (by (repeat (first | exact New.refl _ | assumption | refine New.alloc ?_ _ | refine New.drew ?_ | refine New.drewN ?_ _ | refine New.setCell ?_ (by first | omega | (simp; omega) | (simp; done)) _ | refine New.trans ?_ (by assumption))))) (by omega) (by simp) (lit_cells [10, 20, 1, 0, 7, 40] _ _)).mono ?_
  rintro e w4 ⟨v4, rfl, i4, hR4, hG4⟩
  have s4 := sm_mem i4 (by simp)
  have hG := only_trans (only_alloc (only_trans (only_alloc (only_trans HG1.out HG2.out) _) HG3.out) _) hG4
  have c0 := fun o => only_cells hG w.heap.size o (by simp) (by omega)
  have f0 := fun o => only_marks hG w.heap.size o (by simp) (by omega)
  simp [go_sem] at f0
  have HR4 := Lib.hid hR4; have HG := Lib.hid hG; have z4 := hG4.size; simp at z4
  clear hR4 hG4 i4 hG
  go_wp2
  refine bodyPost_ret (v := rc (v1 - 10) (v2 - 10) v3 v4) (by simp [results, Try.results50, go_sem, c0]) rfl ?_
  exact ⟨_, _, _, _, rfl, by unfold Sm; omega, by unfold Sm; omega, s3, s4, ⟨p + 1 + 1 + 1 + 1, by omega, by omega, ((((HR4.out.set (by first | omega | (simp; omega) | (simp; done)) _).set (by first | omega | (simp; omega) | (simp; done)) _).set (by first | omega | (simp; omega) | (simp; done)) _).set (by first | omega | (simp; omega) | (simp; done)) _)⟩,
    (only_set (only_set (only_set (only_set (only_trans (only_alloc only_refl _) HG.out) (by first | omega | (simp; omega) | (simp; done)) _) (by first | omega | (simp; omega) | (simp; done)) _) (by first | omega | (simp; omega) | (simp; done)) _) (by first | omega | (simp; omega) | (simp; done)) _)⟩

set_option maxHeartbeats 1600000 in
theorem anyRect_any (a : Nat) (A : Option Addr) (m p : Nat) (hp : p ≤ 800000) (hm : m ≤ 2000) (w : World) (h : Rdr w a A m p) :
    Calls Try.prog 26 #[.pointer (some ⟨a, 0, none⟩)] w (DrawnRect2 w a A m p) := by
  have hlt : a < w.heap.size := World.block_lt_of_cell? w ⟨a, 1, none⟩ h.pos
  have HR := Lib.hid h
  clear h
  go_enter Try.func26, Try.ntmps26
  go_wp2_with fail
  refine (someRect_any a A m p (by omega) hm _ (HR.out.new (by (repeat (first | exact New.refl _ | assumption | refine New.alloc ?_ _ | refine New.drew ?_ | refine New.drewN ?_ _ | refine New.setCell ?_ (by first | omega | (simp; omega) | (simp; done)) _ | refine New.trans ?_ (by assumption)))))).mono ?_
  rintro e w1 ⟨x, y, ww, hh, rfl, sx, sy, sw, sh, ⟨q, q1, q2, hR1⟩, hG1⟩
  have cR1 := fun o => only_cells hG1 w.heap.size o (by simp) (by omega)
  have fR1 := fun o => only_marks hG1 w.heap.size o (by simp) (by omega)
  simp [go_sem] at fR1
  have HR1 := Lib.hid hR1; have HG1 := Lib.hid hG1; have z1 := hG1.size; simp at z1
  have z1' : w.heap.size < w1.heap.size := by omega
  clear hR1 hG1
  go_wp2_with fail
  refine (pick_any 20 a A m q (by omega) hm _ (HR1.out.new (by (repeat (first | exact New.refl _ | assumption | refine New.alloc ?_ _ | refine New.drew ?_ | refine New.drewN ?_ _ | refine New.setCell ?_ (by first | omega | (simp; omega) | (simp; done)) _ | refine New.trans ?_ (by assumption)))))).mono ?_
  rintro e w2 ⟨v, rfl, l2, u2, hR2, hG2⟩
  have hGR2 := only_trans (only_alloc HG1.out _) hG2
  have cR2 := fun o => only_cells hGR2 w.heap.size o (by simp) (by omega)
  have fR2 := fun o => only_marks hGR2 w.heap.size o (by simp) (by omega)
  have cB2 := fun o => only_cells hG2 w1.heap.size o (by simp) (by omega)
  have fB2 := fun o => only_marks hG2 w1.heap.size o (by simp) (by omega)
  simp [go_sem] at fR2 fB2 cB2
  have HR2 := Lib.hid hR2; have HG2 := Lib.hid hG2; have HGR2 := Lib.hid hGR2; have z2 := hG2.size; simp at z2
  clear hR2 hG2 hGR2
  clear u2 cR1 fR1
  by_cases hv0 : v = 0
  · subst hv0
    go_wp2_with fail
    refine (one_any [100000, 100001, -100001] (by simp) (by simp) w2.heap.size 3 a A m (q + 1) (by omega) hm _ (HR2.out.new (by (repeat (first | exact New.refl _ | assumption | refine New.alloc ?_ _ | refine New.drew ?_ | refine New.drewN ?_ _ | refine New.setCell ?_ (by first | omega | (simp; omega) | (simp; done)) _ | refine New.trans ?_ (by assumption))))) (by omega) (by simp) (lit_cells [100000, 100001, -100001] _ _)).mono ?_
    rintro e w3 ⟨v3, rfl, i3, hR3, hG3⟩
    have s3 := sm_mem i3 (by simp)
    have hGR3 := only_trans (only_alloc HGR2.out _) hG3
    have hGB3 := only_trans (only_alloc HG2.out _) hG3
    have cR3 := fun o => only_cells hGR3 w.heap.size o (by simp) (by omega)
    have fR3 := fun o => only_marks hGR3 w.heap.size o (by simp) (by omega)
    have cB3 := fun o => only_cells hGB3 w1.heap.size o (by simp) (by omega)
    have fB3 := fun o => only_marks hGB3 w1.heap.size o (by simp) (by omega)
    simp [go_sem] at fR3 fB3 cB3
    have HR3 := Lib.hid hR3; have HGR3 := Lib.hid hGR3; have z3 := hG3.size; simp at z3
    clear hR3 hG3 i3 hGR3 hGB3 cR2 fR2 cB2 fB2
    go_wp2
    refine bodyPost_ret (v := rc v3 y ww hh) (by simp [results, Try.results26, go_sem, cR3]) rfl ?_
    exact ⟨_, _, _, _, rfl, s3, sy, sw, sh, ⟨q + 1 + 1, by omega, by omega, (((((HR3.out).set (by first | omega | (simp; omega) | (simp; done)) _).set (by first | omega | (simp; omega) | (simp; done)) _).set (by first | omega | (simp; omega) | (simp; done)) _).set (by first | omega | (simp; omega) | (simp; done)) _).set (by first | omega | (simp; omega) | (simp; done)) _⟩,
      only_set (only_set (only_set (only_set (only_set (only_trans (only_alloc only_refl _) HGR3.out) (by first | omega | (simp; omega) | (simp; done)) _) (by first | omega | (simp; omega) | (simp; done)) _) (by first | omega | (simp; omega) | (simp; done)) _) (by first | omega | (simp; omega) | (simp; done)) _) (by first | omega | (simp; omega) | (simp; done)) _⟩
  by_cases hv1 : v = 1
  · subst hv1
    go_wp2_with fail
    refine (one_any [-1, 200000, 200001] (by simp) (by simp) w2.heap.size 3 a A m (q + 1) (by omega) hm _ (HR2.out.new (by (repeat (first | exact New.refl _ | assumption | refine New.alloc ?_ _ | refine New.drew ?_ | refine New.drewN ?_ _ | refine New.setCell ?_ (by first | omega | (simp; omega) | (simp; done)) _ | refine New.trans ?_ (by assumption))))) (by omega) (by simp) (lit_cells [-1, 200000, 200001] _ _)).mono ?_
    rintro e w3 ⟨v3, rfl, i3, hR3, hG3⟩
    have s3 := sm_mem i3 (by simp)
    have hGR3 := only_trans (only_alloc HGR2.out _) hG3
    have hGB3 := only_trans (only_alloc HG2.out _) hG3
    have cR3 := fun o => only_cells hGR3 w.heap.size o (by simp) (by omega)
    have fR3 := fun o => only_marks hGR3 w.heap.size o (by simp) (by omega)
    have cB3 := fun o => only_cells hGB3 w1.heap.size o (by simp) (by omega)
    have fB3 := fun o => only_marks hGB3 w1.heap.size o (by simp) (by omega)
    simp [go_sem] at fR3 fB3 cB3
    have HR3 := Lib.hid hR3; have HGR3 := Lib.hid hGR3; have z3 := hG3.size; simp at z3
    clear hR3 hG3 i3 hGR3 hGB3 cR2 fR2 cB2 fB2
    go_wp2
    refine bodyPost_ret (v := rc x y v3 hh) (by simp [results, Try.results26, go_sem, cR3]) rfl ?_
    exact ⟨_, _, _, _, rfl, sx, sy, s3, sh, ⟨q + 1 + 1, by omega, by omega, (((((HR3.out).set (by first | omega | (simp; omega) | (simp; done)) _).set (by first | omega | (simp; omega) | (simp; done)) _).set (by first | omega | (simp; omega) | (simp; done)) _).set (by first | omega | (simp; omega) | (simp; done)) _).set (by first | omega | (simp; omega) | (simp; done)) _⟩,
      only_set (only_set (only_set (only_set (only_set (only_trans (only_alloc only_refl _) HGR3.out) (by first | omega | (simp; omega) | (simp; done)) _) (by first | omega | (simp; omega) | (simp; done)) _) (by first | omega | (simp; omega) | (simp; done)) _) (by first | omega | (simp; omega) | (simp; done)) _) (by first | omega | (simp; omega) | (simp; done)) _⟩
  · have b0 : (v == 0) = false := by simpa using hv0
    have b1 : (v == 1) = false := by simpa using hv1
    clear hv0 hv1
    go_wp2
    refine bodyPost_ret (v := rc x y ww hh) (by simp [results, Try.results26, go_sem, cR2]) rfl ?_
    exact ⟨_, _, _, _, rfl, sx, sy, sw, sh, ⟨q + 1, by omega, by omega, ((((HR2.out).set (by first | omega | (simp; omega) | (simp; done)) _).set (by first | omega | (simp; omega) | (simp; done)) _).set (by first | omega | (simp; omega) | (simp; done)) _).set (by first | omega | (simp; omega) | (simp; done)) _⟩,
      only_set (only_set (only_set (only_set (only_trans (only_alloc only_refl _) HGR2.out) (by first | omega | (simp; omega) | (simp; done)) _) (by first | omega | (simp; omega) | (simp; done)) _) (by first | omega | (simp; omega) | (simp; done)) _) (by first | omega | (simp; omega) | (simp; done)) _⟩

end Go.Proofs.Ytnipnemhbelcaaa
