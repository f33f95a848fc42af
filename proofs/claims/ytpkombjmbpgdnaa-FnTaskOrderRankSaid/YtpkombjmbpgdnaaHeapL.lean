/- Which of two tasks of a queue is sooner, and two tasks exchanged. Conditions: the queue is the call's own; its tasks are valid. -/
import Derived.Test.YtpkombjmbpgdnaaHeapC
import Derived.RegionTactic
import Derived.BigRegion
namespace Go.Proofs.Ytpkombjmbpgdnaa
open Go.RowKit

set_option maxRecDepth 100000 in
set_option maxHeartbeats 4000000 in
theorem Less_cells (g n c i j : Nat) (x0 x1 x2 y0 y1 y2 : Int) (hi : i < n) (hj : j < n) (_hn : n ≤ 1000) (hx : (0 ≤ x1 ∧ x1 ≤ 50) ∧ (0 ≤ x2 ∧ x2 ≤ 20)) (hy : (0 ≤ y1 ∧ y1 ≤ 50) ∧ (0 ≤ y2 ∧ y2 ≤ 20)) (w : World) (hg : g < w.heap.size) (h : (w.cell? ⟨g, i * 3, none⟩ = some (.int .i64 x0) ∧ w.cell? ⟨g, i * 3 + 1, none⟩ = some (.int .i64 x1) ∧ w.cell? ⟨g, i * 3 + 2, none⟩ = some (.int .i64 x2)) ∧ w.cell? ⟨g, j * 3, none⟩ = some (.int .i64 y0) ∧ w.cell? ⟨g, j * 3 + 1, none⟩ = some (.int .i64 y1) ∧ w.cell? ⟨g, j * 3 + 2, none⟩ = some (.int .i64 y2)) :
    Calls Try.prog 74 #[.slice (some ⟨g, 0, none⟩) n c, .int .i64 i, .int .i64 j] w fun e w' => e = .returned (.bool (ltB (x0, x1, x2) (y0, y1, y2))) ∧ New w w' := by
  have H := Lib.hid h
  have KF := Lib.hid (fun X (hX : New w X) => (⟨⟨(hX.cells g _ hg).trans H.out.1.1, (hX.cells g _ hg).trans H.out.1.2.1, (hX.cells g _ hg).trans H.out.1.2.2⟩, (hX.cells g _ hg).trans H.out.2.1, (hX.cells g _ hg).trans H.out.2.2.1, (hX.cells g _ hg).trans H.out.2.2.2⟩ : (X.cell? ⟨g, i * 3, none⟩ = some (.int .i64 x0) ∧ X.cell? ⟨g, i * 3 + 1, none⟩ = some (.int .i64 x1) ∧ X.cell? ⟨g, i * 3 + 2, none⟩ = some (.int .i64 x2)) ∧ X.cell? ⟨g, j * 3, none⟩ = some (.int .i64 y0) ∧ X.cell? ⟨g, j * 3 + 1, none⟩ = some (.int .i64 y1) ∧ X.cell? ⟨g, j * 3 + 2, none⟩ = some (.int .i64 y2)))
  have ND := Lib.hid (New.refl w).drew
  have i0 : (0 : Int) ≤ (i : Int) := by omega
  have j0 : (0 : Int) ≤ (j : Int) := by omega
  have i1 : (i : Int) < (n : Int) := by omega
  have j1 : (j : Int) < (n : Int) := by omega
  obtain ⟨⟨hx0, hx1⟩, hx2, hx3⟩ := hx
  obtain ⟨⟨hy0, hy1⟩, hy2, hy3⟩ := hy
  clear h
  go_enter Try.func74, Try.ntmps74
  go_wp2
  refine wp_region_noPanic ?_
  refine wp_region_held_drew (S := fun w' => (w'.cell? ⟨g, i * 3, none⟩ = some (.int .i64 x0) ∧ w'.cell? ⟨g, i * 3 + 1, none⟩ = some (.int .i64 x1) ∧ w'.cell? ⟨g, i * 3 + 2, none⟩ = some (.int .i64 x2)) ∧ w'.cell? ⟨g, j * 3, none⟩ = some (.int .i64 y0) ∧ w'.cell? ⟨g, j * 3 + 1, none⟩ = some (.int .i64 y1) ∧ w'.cell? ⟨g, j * 3 + 2, none⟩ = some (.int .i64 y2)) (by kernel_rfl) (KF.out _ ND.out) (fun hHeld => ?_)
  generalize w.drew = Vd at ND hHeld ⊢
  refine wpAnyH_take (i := 0) (oi := _) (v := ?_) rfl (by kernel_rfl) (by kernel_rfl) (by kernel_rfl) (fun _ _ _ h => h) (Or.inl ⟨by kernel_rfl, ?_⟩) (by assumption) ?_
  rotate_left; (intro w' hSw; (try dsimp only at hSw); go_split_ands; go_simp; (try with_reducible rfl))
  try dsimp only [Act.put]
  refine wpAnyH_take (i := 1) (oi := _) (v := ?_) rfl (by kernel_rfl) (by kernel_rfl) (by kernel_rfl) (fun _ _ _ h => h) (Or.inl ⟨by kernel_rfl, ?_⟩) (by assumption) ?_
  rotate_left; (intro w' hSw; (try dsimp only at hSw); go_split_ands; go_simp; (try with_reducible rfl))
  try dsimp only [Act.put]
  refine wpAnyH_take (i := 2) (oi := _) (v := ?_) rfl (by kernel_rfl) (by kernel_rfl) (by kernel_rfl) (fun _ _ _ h => h) (Or.inl ⟨by kernel_rfl, ?_⟩) (by assumption) ?_
  rotate_left; (intro w' hSw; (try dsimp only at hSw); go_split_ands; go_simp; (try with_reducible rfl))
  try dsimp only [Act.put]
  refine wpAnyH_take (i := 3) (oi := _) (v := ?_) rfl (by kernel_rfl) (by kernel_rfl) (by kernel_rfl) (fun _ _ _ h => h) (Or.inl ⟨by kernel_rfl, ?_⟩) (by assumption) ?_
  rotate_left; (intro w' hSw; (try dsimp only at hSw); go_split_ands; go_simp; (try with_reducible rfl))
  try dsimp only [Act.put]
  refine wpAnyH_take (i := 5) (oi := _) (v := ?_) rfl (by kernel_rfl) (by kernel_rfl) (by kernel_rfl) (fun _ _ _ h => h) (Or.inl ⟨by kernel_rfl, ?_⟩) (by assumption) ?_
  rotate_left; (intro w' hSw; (try dsimp only at hSw); go_split_ands; go_simp; (try with_reducible rfl))
  try dsimp only [Act.put]
  refine wpAnyH_take (i := 6) (oi := _) (v := ?_) rfl (by kernel_rfl) (by kernel_rfl) (by kernel_rfl) (fun _ _ _ h => h) (Or.inl ⟨by kernel_rfl, ?_⟩) (by assumption) ?_
  rotate_left; (intro w' hSw; (try dsimp only at hSw); go_split_ands; go_simp; (try with_reducible rfl))
  try dsimp only [Act.put]
  refine wpAnyH_take (i := 7) (oi := _) (v := ?_) rfl (by kernel_rfl) (by kernel_rfl) (by kernel_rfl) (fun _ _ _ h => h) (Or.inl ⟨by kernel_rfl, ?_⟩) (by assumption) ?_
  rotate_left; (intro w' hSw; (try dsimp only at hSw); go_split_ands; go_simp; (try with_reducible rfl))
  try dsimp only [Act.put]
  refine wpAnyH_take (i := 8) (oi := _) (v := ?_) rfl (by kernel_rfl) (by kernel_rfl) (by kernel_rfl) (fun _ _ _ h => h) (Or.inl ⟨by kernel_rfl, ?_⟩) (by assumption) ?_
  rotate_left; (intro w' hSw; (try dsimp only at hSw); go_split_ands; go_simp; (try with_reducible rfl))
  try dsimp only [Act.put]
  refine wpAnyH_take (i := 11) (oi := _) (v := ?_) rfl (by kernel_rfl) (by kernel_rfl) (by kernel_rfl) (fun _ _ _ h => h) (Or.inl ⟨by kernel_rfl, ?_⟩) (by assumption) ?_
  rotate_left; (intro w' hSw; (try dsimp only at hSw); go_split_ands; go_simp; (try with_reducible rfl))
  try dsimp only [Act.put]
  refine wpAnyH_take (i := 12) (oi := _) (v := ?_) rfl (by kernel_rfl) (by kernel_rfl) (by kernel_rfl) (fun _ _ _ h => h) (Or.inl ⟨by kernel_rfl, ?_⟩) (by assumption) ?_
  rotate_left; (intro w' hSw; (try dsimp only at hSw); go_split_ands; go_simp; (try with_reducible rfl))
  try dsimp only [Act.put]
  refine wpAnyH_take (i := 13) (oi := _) (v := ?_) rfl (by kernel_rfl) (by kernel_rfl) (by kernel_rfl) (fun _ _ _ h => h) (Or.inl ⟨by kernel_rfl, ?_⟩) (by assumption) ?_
  rotate_left; (intro w' hSw; (try dsimp only at hSw); go_split_ands; go_simp; (try with_reducible rfl))
  try dsimp only [Act.put]
  refine wpAnyH_take (i := 14) (oi := _) (v := ?_) rfl (by kernel_rfl) (by kernel_rfl) (by kernel_rfl) (fun _ _ _ h => h) (Or.inl ⟨by kernel_rfl, ?_⟩) (by assumption) ?_
  rotate_left; (intro w' hSw; (try dsimp only at hSw); go_split_ands; go_simp; (try with_reducible rfl))
  try dsimp only [Act.put]
  refine wpAnyH_take (i := 15) (oi := _) (v := ?_) rfl (by kernel_rfl) (by kernel_rfl) (by kernel_rfl) (fun _ _ _ h => h) (Or.inl ⟨by kernel_rfl, ?_⟩) (by assumption) ?_
  rotate_left; (intro w' hSw; (try dsimp only at hSw); go_split_ands; go_simp; (try with_reducible rfl))
  try dsimp only [Act.put]
  refine wpAnyH_take (i := 16) (oi := _) (v := ?_) rfl (by kernel_rfl) (by kernel_rfl) (by kernel_rfl) (fun _ _ _ h => h) (Or.inl ⟨by kernel_rfl, ?_⟩) (by assumption) ?_
  rotate_left; (intro w' hSw; (try dsimp only at hSw); go_split_ands; go_simp; (try with_reducible rfl))
  try dsimp only [Act.put]
  refine wpAnyH_take (i := 17) (oi := _) (v := ?_) rfl (by kernel_rfl) (by kernel_rfl) (by kernel_rfl) (fun _ _ _ h => h) (Or.inl ⟨by kernel_rfl, ?_⟩) (by assumption) ?_
  rotate_left; (intro w' hSw; (try dsimp only at hSw); go_split_ands; go_simp; (try with_reducible rfl))
  try dsimp only [Act.put]
  refine wpAnyH_take (i := 18) (oi := _) (v := ?_) rfl (by kernel_rfl) (by kernel_rfl) (by kernel_rfl) (fun _ _ _ h => h) (Or.inl ⟨by kernel_rfl, ?_⟩) (by assumption) ?_
  rotate_left; (intro w' hSw; (try dsimp only at hSw); go_split_ands; go_simp; (try with_reducible rfl))
  try dsimp only [Act.put]
  refine wpAnyH_ready (rs := [4]) (by kernel_rfl) (by simp) ?_
  refine AllReadyH.cons (o := _) rfl (fun K hK => ?_) AllReadyH.nil
  go_simp
  go_at_call 73
  refine (distance_any x0 x1 x2 (by omega) (by omega) _).mono ?_
  rintro e w4 ⟨rfl, Nk⟩
  have N4 := Lib.hid (ND.out.trans Nk)
  clear Nk
  go_wp2_with fail
  refine hK.out _ _ (KF.out _ N4.out) (fun hH4 => ?_)
  clear hK K
  try dsimp only [Act.put]
  refine wpAnyH_ready (rs := [9]) (by kernel_rfl) (by simp) ?_
  refine AllReadyH.cons (o := _) rfl (fun K hK => ?_) AllReadyH.nil
  go_simp
  go_at_call 73
  refine (distance_any y0 y1 y2 (by omega) (by omega) _).mono ?_
  rintro e w9 ⟨rfl, Nk⟩
  have N9 := Lib.hid (N4.out.trans Nk)
  clear Nk
  go_wp2_with fail
  refine hK.out _ _ (KF.out _ N9.out) (fun hH9 => ?_)
  clear hK K
  try dsimp only [Act.put]
  refine wpAnyH_ready (rs := [10]) (by kernel_rfl) (by simp) ?_
  refine AllReadyH.cons (o := _) rfl (fun K hK => ?_) AllReadyH.nil
  go_simp
  go_at_call 34
  refine (Compare_any _ _ _).mono ?_
  rintro e w' ⟨rfl, rfl⟩
  go_wp2_with fail
  refine hK.out _ _ (KF.out _ N9.out) (fun hH10 => ?_)
  clear hK K
  try dsimp only [Act.put]
  refine wpAnyH_ready (rs := [19]) (by kernel_rfl) (by simp) ?_
  refine AllReadyH.cons (o := _) rfl (fun K hK => ?_) AllReadyH.nil
  go_simp
  go_at_call 22
  refine (byId_any x0 x1 x2 y0 y1 y2 _).mono ?_
  rintro e w19 ⟨rfl, Nk⟩
  have N19 := Lib.hid (N9.out.trans Nk)
  clear Nk
  go_wp2_with fail
  refine hK.out _ _ (KF.out _ N19.out) (fun hH19 => ?_)
  clear hK K
  try dsimp only [Act.put]
  refine wpAnyH_ready (rs := [20]) (by kernel_rfl) (by simp) ?_
  refine AllReadyH.cons (o := _) rfl (fun K hK => ?_) AllReadyH.nil
  have L0 : (w19.alloc (.cells #[.int .i64 (cmpI (x1 - 4 * x2) (y1 - 4 * y2)), .int .i64 (cmpI x0 y0)] 3)).cell? ⟨w19.heap.size, 0, none⟩ = some (.int .i64 (cmpI (x1 - 4 * x2) (y1 - 4 * y2))) := by simp [go_sem]
  have L1 : (w19.alloc (.cells #[.int .i64 (cmpI (x1 - 4 * x2) (y1 - 4 * y2)), .int .i64 (cmpI x0 y0)] 3)).cell? ⟨w19.heap.size, 1, none⟩ = some (.int .i64 (cmpI x0 y0)) := by simp [go_sem]
  have N20 := Lib.hid (N19.out.alloc (.cells #[.int .i64 (cmpI (x1 - 4 * x2) (y1 - 4 * y2)), .int .i64 (cmpI x0 y0)] 3))
  have L0 := Lib.hid L0; have L1 := Lib.hid L1
  go_simp
  refine hK.out _ _ (KF.out _ N20.out) (fun hH20 => ?_)
  clear hK K
  try dsimp only [Act.put]
  refine wpAnyH_ready (rs := [21]) (by kernel_rfl) (by simp) ?_
  refine AllReadyH.cons (o := _) rfl (fun K hK => ?_) AllReadyH.nil
  go_simp
  go_at_call 78
  refine (Or_any _ _ _ _ _ L0.out L1.out).mono ?_
  rintro e w' ⟨rfl, rfl⟩
  go_wp2_with fail
  refine hK.out _ _ (KF.out _ N20.out) (fun hH21 => ?_)
  clear hK K
  try dsimp only [Act.put]
  refine wpAnyH_take (i := 22) (oi := _) (v := ?_) rfl (by kernel_rfl) (by kernel_rfl) (by kernel_rfl) (fun _ _ _ h => h) (Or.inl ⟨by kernel_rfl, ?_⟩) (by assumption) ?_
  rotate_left; (intro w' hSw; (try dsimp only at hSw); go_split_ands; go_simp; (try with_reducible rfl))
  try dsimp only [Act.put]
  refine wpAnyH_ready (rs := [23]) (by kernel_rfl) (by simp) ?_
  refine AllReadyH.cons (o := _) rfl (fun K hK => ?_) AllReadyH.nil
  go_simp
  refine hK.out _ _ (KF.out _ N20.out) (fun hH23 => ?_)
  clear hK K
  try dsimp only [Act.put]
  refine wpAnyH_done (by kernel_rfl) ?_ _
  refine NoPanic.normal ?_
  go_wp2_with fail
  go_ret
  exact ⟨ret_bool (or_lt (x0, x1, x2) (y0, y1, y2)), N20.out⟩
theorem Less_any {lo P g c n : Nat} {w : World} {f : Nat → Tk} (h : Qu lo w P g c n f) (i j : Nat) (hi : i < n) (hj : j < n) (hn : n ≤ 1000) (hv : ∀ k, k < n → VT (f k)) :
    Calls Try.prog 74 #[.slice (some ⟨g, 0, none⟩) n c, .int .i64 i, .int .i64 j] w fun e w' => e = .returned (.bool (ltB (f i) (f j))) ∧ New w w' :=
  Less_cells g n c i j _ _ _ _ _ _ hi hj hn (hv i hi).2 (hv j hj).2 w h.row.2.1 ⟨h.at_ hi, h.at_ hj⟩
/-- Two tasks exchanged. -/
theorem Qu.swp {lo P g c n : Nat} {w : World} {f : Nat → Tk} (h : Qu lo w P g c n f) (i j : Nat) : Qu lo ((((((w.setCell ⟨g, i * 3, none⟩ (.int .i64 (f j).1)).setCell ⟨g, i * 3 + 1, none⟩ (.int .i64 (f j).2.1)).setCell ⟨g, i * 3 + 2, none⟩ (.int .i64 (f j).2.2)).setCell ⟨g, j * 3, none⟩ (.int .i64 (f i).1)).setCell ⟨g, j * 3 + 1, none⟩ (.int .i64 (f i).2.1)).setCell ⟨g, j * 3 + 2, none⟩ (.int .i64 (f i).2.2)) P g c n (Go.Proofs.Ytpkombjmbpgdnaa.swp f i j) := by
  have hne := h.ne
  have far : ∀ (W : World) (o : Nat) (u : Value), (W.setCell ⟨g, o, none⟩ u).cell? ⟨P, 0, none⟩ = W.cell? ⟨P, 0, none⟩ := fun W o u => World.cell?_setCell_other _ _ _ _ (fun e => hne (congrArg Addr.block e))
  have farz : ∀ (W : World) (o : Nat) (u : Value), (W.setCell ⟨g, o, none⟩ u).frozen? ⟨P, 0, none⟩ = W.frozen? ⟨P, 0, none⟩ := fun W o u => World.frozen?_of_block (w := W) (Below.heap_setCell _ _ _ _ (fun e => hne (by simpa using e.symm)))
  refine ⟨by rw [far, far, far, far, far, far]; exact h.cell, by rw [farz, farz, farz, farz, farz, farz]; exact h.fz, ?_, hne, h.lo_⟩
  have o := (((((h.own.set (i * 3) (f j).1).set (i * 3 + 1) (f j).2.1).set (i * 3 + 2) (f j).2.2).set (j * 3) (f i).1).set (j * 3 + 1) (f i).2.1).set (j * 3 + 2) (f i).2.2
  rw [flatF_set f (f j) i n, flatF_set _ (f i) j n, upd_swp] at o
  exact o
set_option maxRecDepth 100000 in
set_option maxHeartbeats 4000000 in
theorem Swap_cells (g n c i j : Nat) (x0 x1 x2 y0 y1 y2 : Int) (hi : i < n) (hj : j < n) (_hn : n ≤ 1000) (w : World) (h : (w.cell? ⟨g, i * 3, none⟩ = some (.int .i64 x0) ∧ w.cell? ⟨g, i * 3 + 1, none⟩ = some (.int .i64 x1) ∧ w.cell? ⟨g, i * 3 + 2, none⟩ = some (.int .i64 x2)) ∧ w.cell? ⟨g, j * 3, none⟩ = some (.int .i64 y0) ∧ w.cell? ⟨g, j * 3 + 1, none⟩ = some (.int .i64 y1) ∧ w.cell? ⟨g, j * 3 + 2, none⟩ = some (.int .i64 y2))
    (hf : (w.frozen? ⟨g, i * 3, none⟩ = false ∧ w.frozen? ⟨g, i * 3 + 1, none⟩ = false ∧ w.frozen? ⟨g, i * 3 + 2, none⟩ = false) ∧ w.frozen? ⟨g, j * 3, none⟩ = false ∧ w.frozen? ⟨g, j * 3 + 1, none⟩ = false ∧ w.frozen? ⟨g, j * 3 + 2, none⟩ = false) (hij : i ≠ j) :
    Calls Try.prog 77 #[.slice (some ⟨g, 0, none⟩) n c, .int .i64 i, .int .i64 j] w fun e w' => e = .returned (.tuple #[]) ∧ w' = ((((((w.setCell ⟨g, i * 3, none⟩ (.int .i64 y0)).setCell ⟨g, i * 3 + 1, none⟩ (.int .i64 y1)).setCell ⟨g, i * 3 + 2, none⟩ (.int .i64 y2)).setCell ⟨g, j * 3, none⟩ (.int .i64 x0)).setCell ⟨g, j * 3 + 1, none⟩ (.int .i64 x1)).setCell ⟨g, j * 3 + 2, none⟩ (.int .i64 x2)).drew := by
  obtain ⟨⟨a0, a1, a2⟩, b0, b1, b2⟩ := h
  obtain ⟨⟨e0, e1, e2⟩, k0, k1, k2⟩ := hf
  have i0 : (0 : Int) ≤ (i : Int) := by omega
  have j0 : (0 : Int) ≤ (j : Int) := by omega
  have i1 : (i : Int) < (n : Int) := by omega
  have j1 : (j : Int) < (n : Int) := by omega
  go_enter Try.func77, Try.ntmps77
  go_wp2
  go_region
  go_end0
  exact ⟨rfl, rfl⟩
/-- Only block g has turned, and new blocks are there. -/
theorem only6 {w : World} {g : Nat} (o0 o1 o2 o3 o4 o5 : Nat) (u0 u1 u2 u3 u4 u5 : Value) : w.grownBy ((((((w.setCell ⟨g, o0, none⟩ u0).setCell ⟨g, o1, none⟩ u1).setCell ⟨g, o2, none⟩ u2).setCell ⟨g, o3, none⟩ u3).setCell ⟨g, o4, none⟩ u4).setCell ⟨g, o5, none⟩ u5).drew (some g) :=
  only_drew (own_set (own_set (own_set (own_set (own_set (own_set (World.grownBy.refl _ _) u0) u1) u2) u3) u4) u5)
theorem Swap_any {lo P g c n : Nat} {w : World} {f : Nat → Tk} (h : Qu lo w P g c n f) (i j : Nat) (hi : i < n) (hj : j < n) (hn : n ≤ 1000) (hij : i ≠ j) :
    Calls Try.prog 77 #[.slice (some ⟨g, 0, none⟩) n c, .int .i64 i, .int .i64 j] w fun e w' => e = .returned (.tuple #[]) ∧ Qu lo w' P g c n (Go.Proofs.Ytpkombjmbpgdnaa.swp f i j) ∧ w.grownBy w' (some g) :=
  (Swap_cells g n c i j _ _ _ _ _ _ hi hj hn w ⟨h.at_ hi, h.at_ hj⟩ ⟨h.marks_ hi, h.marks_ hj⟩ hij).mono fun e w' ⟨he, hw⟩ => by
    subst hw
    exact ⟨he, (h.swp i j).new (New.refl _).drew, only6 _ _ _ _ _ _ _ _ _ _ _ _⟩
end Go.Proofs.Ytpkombjmbpgdnaa
