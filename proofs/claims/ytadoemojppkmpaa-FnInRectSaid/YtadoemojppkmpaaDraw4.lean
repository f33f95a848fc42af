/- A drawn rectangle with a point: what the draws leave. Condition: the code's bytes can be read. -/
import Derived.Test.YtadoemojppkmpaaDraw
import Derived.Deep.RegionHeld3
namespace Go.Proofs.Ytadoemojppkmpaa
open Go.RowKit

def DrawnPt (w : World) (e : Ending) (w' : World) : Prop := ∃ x y ww h px py : Int, e = .returned (.tuple #[rc x y ww h, .int .i64 px, .int .i64 py]) ∧ (-1000000 ≤ px ∧ px ≤ 1000000) ∧ (-1000000 ≤ py ∧ py ≤ 1000000) ∧ New w w'
theorem lit_under (zs : List Int) (w : World) (t : TypeId) (o : Obj) (B : Nat) (hB : w.heap.size = B) : ∀ i, i < zs.length → ((w.alloc (.cells (zs.map (Value.int .i64)).toArray t)).alloc o).drew.cell? ⟨B, i, none⟩ = some (.int .i64 (zs.getD i 0)) := fun i hi => by
  subst hB
  exact (World.cell?_alloc_lt _ o ⟨w.heap.size, i, none⟩ (by simp)).trans (lit_cells zs w t i hi)

set_option maxHeartbeats 16000000 in
theorem DrawInRect_any (A : Option Addr) (n c : Nat) (hn : n ≤ maxLen) (hnc : n ≤ c) (w : World) (hb : Bytes w A n) :
    Calls Try.prog 24 #[.slice A n c] w (DrawnPt w) := by
  have HB := Lib.hid hb
  clear hb
  go_enter Try.func24, Try.ntmps24
  go_wp2_with fail
  refine (newReader_any A n c hn hnc _ (HB.out.new (by (repeat (first | exact New.refl _ | assumption | refine New.alloc ?_ _ | refine New.drew ?_ | refine New.drewN ?_ _ | refine New.setCell ?_ (by first | omega | (simp; omega) | (simp; done)) _ | refine New.trans ?_ (by assumption)))))).mono ?_
  rintro e w1 ⟨rfl, ⟨m, hm, hR⟩, hN, hz⟩
  simp at hz hR
  have c1 := fun o => hN.cells w.heap.size o (by first | omega | (simp; omega) | (simp; done))
  have f1 := fun o => hN.marks w.heap.size o (by first | omega | (simp; omega) | (simp; done))
  have HR := Lib.hid hR; have HN := Lib.hid hN
  clear hR hN
  go_wp2_with fail
  refine (anyRect_any _ A m 0 (by omega) hm _ HR.out).mono ?_
  rintro e w2 ⟨ax, ay, aw, ah, rfl, sx, sy, sw, sh, ⟨q, q1, q2, hR2⟩, hG⟩
  have c2 := fun o => (only_cells hG w.heap.size o (by omega) (by omega)).trans (c1 o)
  have f2 := fun o => (only_marks hG w.heap.size o (by omega) (by omega)).trans (f1 o)
  simp [go_sem] at f2
  have hz2 := hG.size
  have s0 : w.heap.size < w2.heap.size := by omega
  have s1 : w.heap.size + 1 < w2.heap.size := by omega
  have HR2 := Lib.hid hR2; have HG := Lib.hid hG
  clear hG c1 f1 hR2
  unfold Sm at sx sy sw sh
  have WW := Lib.hid (show IntKind.i64.wrap (aw - 1) = aw - 1 by rw [IntKind.wrap_i64]; omega)
  have WH := Lib.hid (show IntKind.i64.wrap (ah - 1) = ah - 1 by rw [IntKind.wrap_i64]; omega)
  go_wp2_with fail
  go_region_held3 (fun w' => w'.cell? ⟨w2.heap.size, 0, none⟩ = some (.int .i64 ax) ∧ w'.cell? ⟨w2.heap.size, 1, none⟩ = some (.int .i64 ay) ∧ w'.cell? ⟨w2.heap.size, 2, none⟩ = some (.int .i64 aw) ∧ w'.cell? ⟨w2.heap.size, 3, none⟩ = some (.int .i64 ah))
    (first
      | (simp [go_sem]; done)
      | (simp [cB4]; done)
      | (simp [cB3]; done)
      | (simp [go_sem, cB3, t1]; done)
      | (simp [go_sem, cB3, (by omega : w2.heap.size < w3.heap.size)]; done)
      | (simp [cB4, World.cell?_setCell_far, zA3]; done))
    (first
      | (go_at_call 43
         with_reducible show Calls _ _ #[_, .slice (some ⟨w3.heap.size, 0, none⟩) 6 6] _ _
         refine (one_any [0, -1, 1, ah, IntKind.i64.wrap (ah - 1), 3] (by simp) (by simp) (w3.heap.size) 6 (w.heap.size + 1) A m (q + 1) (by omega) hm _ (HR3.out.new (by (repeat (first | exact New.refl _ | assumption | refine New.alloc ?_ _ | refine New.drew ?_ | refine New.drewN ?_ _ | refine New.setCell ?_ (by first | omega | (simp; omega) | (simp; done)) _ | refine New.trans ?_ (by assumption))))) (by omega) (by first | omega | (simp; omega) | (simp; done)) (lit_cells [0, -1, 1, ah, IntKind.i64.wrap (ah - 1), 3] w3 _)).mono ?_
         rintro e w4 ⟨zy, rfl, i4, hR4, hG4⟩
         have s4 : -400000 ≤ zy ∧ zy ≤ 400000 := by rw [WH.out] at i4; simp at i4; omega
         have cB4 := fun o => (only_cells hG4 w2.heap.size o (by first | omega | (simp; omega) | (simp; done)) (by omega))
         have cA4 := fun o => (only_cells hG4 w.heap.size o (by first | omega | (simp; omega) | (simp; done)) (by omega))
         have fA4 := fun o => (only_marks hG4 w.heap.size o (by first | omega | (simp; omega) | (simp; done)) (by omega))
         have t0 : w.heap.size < w3.heap.size := by omega
         have t1 : w2.heap.size < w3.heap.size := by omega
         simp [go_sem, t0, t1, cB3, cA3, fA3] at cB4 fA4 cA4
         clear i4 hR4)
      | (go_at_call 43
         with_reducible show Calls _ _ #[_, .slice (some ⟨w2.heap.size + 1 + 1, 0, none⟩) 6 6] _ _
         refine (one_any [0, -1, 1, ah, IntKind.i64.wrap (ah - 1), 3] (by simp) (by simp) (w2.heap.size + 1 + 1) 6 (w.heap.size + 1) A m (q + 1) (by omega) hm _ (HR3.out) (by omega) (by first | omega | (simp; omega) | (simp; done)) (fun i hi => (only_cells hG3 (w2.heap.size + 1 + 1) i (by first | omega | (simp; omega) | (simp; done)) (by omega)).trans (lit_cells2 [0, -1, 1, ah, IntKind.i64.wrap (ah - 1), 3] _ _ (w2.heap.size + 1 + 1) (by simp) i hi))).mono ?_
         rintro e w4 ⟨zy, rfl, i4, hR4, hG4⟩
         have s4 : -400000 ≤ zy ∧ zy ≤ 400000 := by rw [WH.out] at i4; simp at i4; omega
         have cB4 := fun o => (only_cells hG4 w2.heap.size o (by first | omega | (simp; omega) | (simp; done)) (by omega))
         have cA4 := fun o => (only_cells hG4 w.heap.size o (by first | omega | (simp; omega) | (simp; done)) (by omega))
         have fA4 := fun o => (only_marks hG4 w.heap.size o (by first | omega | (simp; omega) | (simp; done)) (by omega))
         have t0 : w.heap.size < w3.heap.size := by omega
         have t1 : w2.heap.size < w3.heap.size := by omega
         simp [go_sem, t0, t1, cB3, cA3, fA3] at cB4 fA4 cA4
         clear i4 hR4)
      | (go_at_call 43
         with_reducible show Calls _ _ #[_, .slice (some ⟨w2.heap.size + 1, 0, none⟩) 6 6] _ _
         refine (one_any [0, -1, 1, ah, IntKind.i64.wrap (ah - 1), 3] (by simp) (by simp) (w2.heap.size + 1) 6 (w.heap.size + 1) A m (q + 1) (by omega) hm _ (HR3.out) (by omega) (by first | omega | (simp; omega) | (simp; done)) (fun i hi => (only_cells hG3 (w2.heap.size + 1) i (by first | omega | (simp; omega) | (simp; done)) (by omega)).trans (lit_under [0, -1, 1, ah, IntKind.i64.wrap (ah - 1), 3] _ _ _ (w2.heap.size + 1) (by simp) i hi))).mono ?_
         rintro e w4 ⟨zy, rfl, i4, hR4, hG4⟩
         have s4 : -400000 ≤ zy ∧ zy ≤ 400000 := by rw [WH.out] at i4; simp at i4; omega
         have cB4 := fun o => (only_cells hG4 w2.heap.size o (by first | omega | (simp; omega) | (simp; done)) (by omega))
         have cA4 := fun o => (only_cells hG4 w.heap.size o (by first | omega | (simp; omega) | (simp; done)) (by omega))
         have fA4 := fun o => (only_marks hG4 w.heap.size o (by first | omega | (simp; omega) | (simp; done)) (by omega))
         have t0 : w.heap.size < w3.heap.size := by omega
         have t1 : w2.heap.size < w3.heap.size := by omega
         simp [go_sem, t0, t1, cB3, cA3, fA3] at cB4 fA4 cA4
         clear i4 hR4)
      | (go_at_call 43
         with_reducible show Calls _ _ #[_, .slice (some ⟨w2.heap.size + 1 + 1, 0, none⟩) 6 6] _ _
         refine (one_any [0, -1, 1, aw, IntKind.i64.wrap (aw - 1), 3] (by simp) (by simp) (w2.heap.size + 1 + 1) 6 (w.heap.size + 1) A m q (by omega) hm _ (HR2.out.new (by (repeat (first | exact New.refl _ | assumption | refine New.alloc ?_ _ | refine New.drew ?_ | refine New.drewN ?_ _ | refine New.setCell ?_ (by first | omega | (simp; omega) | (simp; done)) _ | refine New.trans ?_ (by assumption))))) (by omega) (by first | omega | (simp; omega) | (simp; done)) (lit_cells2 [0, -1, 1, aw, IntKind.i64.wrap (aw - 1), 3] _ _ (w2.heap.size + 1 + 1) (by simp))).mono ?_
         rintro e w3 ⟨zx, rfl, i3, hR3, hG3⟩
         have s3 : -400000 ≤ zx ∧ zx ≤ 400000 := by rw [WW.out] at i3; simp at i3; omega
         have cB3 := fun o => only_cells hG3 w2.heap.size o (by first | omega | (simp; omega) | (simp; done)) (by omega)
         have cA3 := fun o => (only_cells hG3 w.heap.size o (by first | omega | (simp; omega) | (simp; done)) (by omega))
         have fA3 := fun o => (only_marks hG3 w.heap.size o (by first | omega | (simp; omega) | (simp; done)) (by omega))
         simp [go_sem, s0, c2, f2, Nat.lt_succ_of_lt s0] at cB3 fA3 cA3
         have zB3 := hG3.size
         simp at zB3
         have HR3 := Lib.hid hR3
         have zA3 : w.heap.size ≠ w2.heap.size := by omega
         clear i3 hR3)
      | (go_at_call 43
         with_reducible show Calls _ _ #[_, .slice (some ⟨w2.heap.size + 1, 0, none⟩) 6 6] _ _
         refine (one_any [0, -1, 1, aw, IntKind.i64.wrap (aw - 1), 3] (by simp) (by simp) (w2.heap.size + 1) 6 (w.heap.size + 1) A m q (by omega) hm _ (HR2.out.new (by (repeat (first | exact New.refl _ | assumption | refine New.alloc ?_ _ | refine New.drew ?_ | refine New.drewN ?_ _ | refine New.setCell ?_ (by first | omega | (simp; omega) | (simp; done)) _ | refine New.trans ?_ (by assumption))))) (by omega) (by first | omega | (simp; omega) | (simp; done)) (lit_cells2 [0, -1, 1, aw, IntKind.i64.wrap (aw - 1), 3] _ _ (w2.heap.size + 1) (by simp))).mono ?_
         rintro e w3 ⟨zx, rfl, i3, hR3, hG3⟩
         have s3 : -400000 ≤ zx ∧ zx ≤ 400000 := by rw [WW.out] at i3; simp at i3; omega
         have cB3 := fun o => only_cells hG3 w2.heap.size o (by first | omega | (simp; omega) | (simp; done)) (by omega)
         have cA3 := fun o => (only_cells hG3 w.heap.size o (by first | omega | (simp; omega) | (simp; done)) (by omega))
         have fA3 := fun o => (only_marks hG3 w.heap.size o (by first | omega | (simp; omega) | (simp; done)) (by omega))
         simp [go_sem, s0, c2, f2, Nat.lt_succ_of_lt s0] at cB3 fA3 cA3
         have zB3 := hG3.size
         simp at zB3
         have HR3 := Lib.hid hR3
         have zA3 : w.heap.size ≠ w2.heap.size := by omega
         clear i3 hR3)
      | (go_at_call 43
         with_reducible show Calls _ _ #[_, .slice (some ⟨w2.heap.size + 1, 0, none⟩) 6 6] _ _
         refine (one_any [0, -1, 1, aw, IntKind.i64.wrap (aw - 1), 3] (by simp) (by simp) (w2.heap.size + 1) 6 (w.heap.size + 1) A m q (by omega) hm _ (HR2.out.new (by (repeat (first | exact New.refl _ | assumption | refine New.alloc ?_ _ | refine New.drew ?_ | refine New.drewN ?_ _ | refine New.setCell ?_ (by first | omega | (simp; omega) | (simp; done)) _ | refine New.trans ?_ (by assumption))))) (by omega) (by first | omega | (simp; omega) | (simp; done)) (lit_under [0, -1, 1, aw, IntKind.i64.wrap (aw - 1), 3] _ _ _ (w2.heap.size + 1) (by simp))).mono ?_
         rintro e w3 ⟨zx, rfl, i3, hR3, hG3⟩
         have s3 : -400000 ≤ zx ∧ zx ≤ 400000 := by rw [WW.out] at i3; simp at i3; omega
         have cB3 := fun o => only_cells hG3 w2.heap.size o (by first | omega | (simp; omega) | (simp; done)) (by omega)
         have cA3 := fun o => (only_cells hG3 w.heap.size o (by first | omega | (simp; omega) | (simp; done)) (by omega))
         have fA3 := fun o => (only_marks hG3 w.heap.size o (by first | omega | (simp; omega) | (simp; done)) (by omega))
         simp [go_sem, s0, c2, f2, Nat.lt_succ_of_lt s0] at cB3 fA3 cA3
         have zB3 := hG3.size
         simp at zB3
         have HR3 := Lib.hid hR3
         have zA3 : w.heap.size ≠ w2.heap.size := by omega
         clear i3 hR3))
  all_goals
    have e1 : IntKind.i64.wrap (ax + zx) = ax + zx := by rw [IntKind.wrap_i64]; omega
    have e2 : IntKind.i64.wrap (ay + zy) = ay + zy := by rw [IntKind.wrap_i64]; omega
    have b1 : (-1000000 ≤ ax + zx ∧ ax + zx ≤ 1000000) ∧ (-1000000 ≤ ay + zy ∧ ay + zy ≤ 1000000) := by omega
    have N2 := new_only (((New.refl w).alloc _).trans HN.out) (by omega) HG.out
    rw [e1, e2]
    clear e1 e2
    go_wp2
    refine bodyPost_ret (v := .tuple #[rc ax ay aw ah, .int .i64 (ax + zx), .int .i64 (ay + zy)]) (by first | (simp [results, Try.results24, go_sem]; done) | (simp [results, Try.results24, go_sem, cA4]; done)) rfl ?_
    refine ⟨ax, ay, aw, ah, ax + zx, ay + zy, rfl, b1.1, b1.2, ?_⟩
    refine New.setCell (New.setCell (New.setCell (New.setCell (new_only ?_ (by omega) hG4) (by first | omega | (simp; omega) | (simp; done)) _) (by first | omega | (simp; omega) | (simp; done)) _) (by first | omega | (simp; omega) | (simp; done)) _) (by first | omega | (simp; omega) | (simp; done)) _
    repeat (first | refine New.alloc ?_ _ | refine New.drew ?_)
    refine new_only ?_ (by omega) hG3
    repeat (first | exact N2 | refine New.alloc ?_ _ | refine New.drew ?_)
end Go.Proofs.Ytadoemojppkmpaa
