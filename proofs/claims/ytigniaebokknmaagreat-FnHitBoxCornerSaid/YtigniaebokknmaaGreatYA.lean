/- Parts that belong together: Two, Meet, RectD, Hull, RectE, RectF, RectG. Conditions: as each part says. -/
import Derived.Test.YtigniaebokknmaaGreatZR
/- What the two boxed rectangles and the result's variable hold while a common part or a hull is reckoned, and that it stays so. No condition. -/
namespace Go.Proofs.YtigniaebokknmaaGreat
open Go.RowKit

/-- What the two boxed rectangles and the result's variable hold while a common part or a hull is reckoned. -/
abbrev Two (w : World) (ax ay aw ah bx by' bw bh : Int) (w' : World) : Prop := New w w' ∧ w'.cell? ⟨w.heap.size, 0, none⟩ = some (.int .i64 ax) ∧ w'.cell? ⟨w.heap.size, 1, none⟩ = some (.int .i64 ay) ∧ w'.cell? ⟨w.heap.size, 2, none⟩ = some (.int .i64 aw) ∧ w'.cell? ⟨w.heap.size, 3, none⟩ = some (.int .i64 ah) ∧ w'.cell? ⟨w.heap.size + 1, 0, none⟩ = some (.int .i64 bx) ∧ w'.cell? ⟨w.heap.size + 1, 1, none⟩ = some (.int .i64 by') ∧ w'.cell? ⟨w.heap.size + 1, 2, none⟩ = some (.int .i64 bw) ∧ w'.cell? ⟨w.heap.size + 1, 3, none⟩ = some (.int .i64 bh) ∧ w'.cell? ⟨w.heap.size + 1 + 1, 0, none⟩ = some (cv w' ⟨w.heap.size + 1 + 1, 0, none⟩) ∧ w'.cell? ⟨w.heap.size + 1 + 1, 1, none⟩ = some (cv w' ⟨w.heap.size + 1 + 1, 1, none⟩) ∧ w'.cell? ⟨w.heap.size + 1 + 1, 2, none⟩ = some (cv w' ⟨w.heap.size + 1 + 1, 2, none⟩) ∧ w'.cell? ⟨w.heap.size + 1 + 1, 3, none⟩ = some (cv w' ⟨w.heap.size + 1 + 1, 3, none⟩) ∧ w'.frozen? ⟨w.heap.size + 1 + 1, 0, none⟩ = false ∧ w'.frozen? ⟨w.heap.size + 1 + 1, 1, none⟩ = false ∧ w'.frozen? ⟨w.heap.size + 1 + 1, 2, none⟩ = false ∧ w'.frozen? ⟨w.heap.size + 1 + 1, 3, none⟩ = false ∧ w.heap.size + 1 + 1 < w'.heap.size
section
variable {w w1 w2 : World} {ax ay aw ah bx by' bw bh : Int}
theorem two_keep (hb : New w1 w2) (h : Two w ax ay aw ah bx by' bw bh w1) : Two w ax ay aw ah bx by' bw bh w2 := by
  obtain ⟨h0, h1, h2, h3, h4, h5, h6, h7, h8, h9, h10, h11, h12, h13, h14, h15, h16, h17⟩ := h
  have hz := hb.le
  have c := hb.cells
  have m := hb.marks
  refine ⟨h0.trans hb, (c _ _ (by omega)).trans h1, (c _ _ (by omega)).trans h2, (c _ _ (by omega)).trans h3, (c _ _ (by omega)).trans h4, (c _ _ (by omega)).trans h5, (c _ _ (by omega)).trans h6, (c _ _ (by omega)).trans h7, (c _ _ (by omega)).trans h8,
    cv_of ?_, cv_of ?_, cv_of ?_, cv_of ?_, (m _ _ (by omega)).trans h13, (m _ _ (by omega)).trans h14, (m _ _ (by omega)).trans h15, (m _ _ (by omega)).trans h16, by omega⟩
  · rw [c _ _ (by omega), h9]; rfl
  · rw [c _ _ (by omega), h10]; rfl
  · rw [c _ _ (by omega), h11]; rfl
  · rw [c _ _ (by omega), h12]; rfl
theorem two_set {i : Nat} {u : Value} (h : Two w ax ay aw ah bx by' bw bh w1) : Two w ax ay aw ah bx by' bw bh (w1.setCell ⟨w.heap.size + 1 + 1, i, none⟩ u) := by
  obtain ⟨h0, h1, h2, h3, h4, h5, h6, h7, h8, h9, h10, h11, h12, h13, h14, h15, h16, h17⟩ := h
  have c : ∀ k o, k < w.heap.size + 1 + 1 → (w1.setCell ⟨w.heap.size + 1 + 1, i, none⟩ u).cell? ⟨k, o, none⟩ = w1.cell? ⟨k, o, none⟩ := fun k o hk => World.cell?_of_block (Below.heap_setCell _ _ _ _ (by simp; omega))
  have m : ∀ o, (w1.setCell ⟨w.heap.size + 1 + 1, i, none⟩ u).frozen? ⟨w.heap.size + 1 + 1, o, none⟩ = w1.frozen? ⟨w.heap.size + 1 + 1, o, none⟩ := fun o => by simp [go_sem]
  exact ⟨h0.setCell (by simp; omega) u, (c _ _ (by omega)).trans h1, (c _ _ (by omega)).trans h2, (c _ _ (by omega)).trans h3, (c _ _ (by omega)).trans h4, (c _ _ (by omega)).trans h5, (c _ _ (by omega)).trans h6, (c _ _ (by omega)).trans h7, (c _ _ (by omega)).trans h8,
    cv_set h9, cv_set h10, cv_set h11, cv_set h12, (m _).trans h13, (m _).trans h14, (m _).trans h15, (m _).trans h16, by simpa [World.setCell] using h17⟩
theorem two_store {u0 u1 u2 u3 : Value} (h : Two w ax ay aw ah bx by' bw bh w1) : Two w ax ay aw ah bx by' bw bh ((((w1.setCell ⟨w.heap.size + 1 + 1, 0, none⟩ u0).setCell ⟨w.heap.size + 1 + 1, 1, none⟩ u1).setCell ⟨w.heap.size + 1 + 1, 2, none⟩ u2).setCell ⟨w.heap.size + 1 + 1, 3, none⟩ u3) :=
  two_set (two_set (two_set (two_set h)))
end


end Go.Proofs.YtigniaebokknmaaGreat

/- The common part of two valid rectangles, as the program reckons it. Condition: both are valid. -/
namespace Go.Proofs.YtigniaebokknmaaGreat
open Go.RowKit

set_option maxHeartbeats 400000 in
theorem meet_any (ax ay aw ah bx by' bw bh : Int) (w : World) (hv : vR ax ay aw ah = true) (hv' : vR bx by' bw bh = true) :
    Calls Tryz.prog 43 #[rc ax ay aw ah, rc bx by' bw bh] w fun e w' => e = .returned (rc (mx ax bx) (mx ay by') (mW ax aw bx bw) (mW ay ah by' bh)) ∧ New w w' := by
  obtain ⟨a1, a2, a3, a4, a5, a6, a7, a8⟩ := vR_iff.1 hv
  obtain ⟨b1, b2, b3, b4, b5, b6, b7, b8⟩ := vR_iff.1 hv'
  clear hv hv'
  have m1 := mx_bd ⟨a1, a2⟩ ⟨b1, b2⟩
  have m2 := mx_bd ⟨a3, a4⟩ ⟨b3, b4⟩
  have m3 := mn_bd (a := ax + aw) (b := bx + bw) (l := -100000) (u := 300000) (by omega) (by omega)
  have m4 := mn_bd (a := ay + ah) (b := by' + bh) (l := -100000) (u := 300000) (by omega) (by omega)
  have hmx := run_mx Tryz.prog
  have hmn := run_mn Tryz.prog
  go_enter Tryz.func43, Tryz.ntmps43
  go_wp2
  refine wp_region_noPanic ?_
  refine wp_region_held_drew (S := fun w' => New w w' ∧ w'.cell? ⟨w.heap.size, 0, none⟩ = some (.int .i64 ax) ∧ w'.cell? ⟨w.heap.size, 1, none⟩ = some (.int .i64 ay) ∧ w'.cell? ⟨w.heap.size, 2, none⟩ = some (.int .i64 aw) ∧ w'.cell? ⟨w.heap.size, 3, none⟩ = some (.int .i64 ah) ∧ w'.cell? ⟨w.heap.size + 1, 0, none⟩ = some (.int .i64 bx) ∧ w'.cell? ⟨w.heap.size + 1, 1, none⟩ = some (.int .i64 by') ∧ w'.cell? ⟨w.heap.size + 1, 2, none⟩ = some (.int .i64 bw) ∧ w'.cell? ⟨w.heap.size + 1, 3, none⟩ = some (.int .i64 bh) ∧ w'.cell? ⟨w.heap.size + 1 + 1, 0, none⟩ = some (cv w' ⟨w.heap.size + 1 + 1, 0, none⟩) ∧ w'.cell? ⟨w.heap.size + 1 + 1, 1, none⟩ = some (cv w' ⟨w.heap.size + 1 + 1, 1, none⟩) ∧ w'.cell? ⟨w.heap.size + 1 + 1, 2, none⟩ = some (cv w' ⟨w.heap.size + 1 + 1, 2, none⟩) ∧ w'.cell? ⟨w.heap.size + 1 + 1, 3, none⟩ = some (cv w' ⟨w.heap.size + 1 + 1, 3, none⟩) ∧ w'.frozen? ⟨w.heap.size + 1 + 1, 0, none⟩ = false ∧ w'.frozen? ⟨w.heap.size + 1 + 1, 1, none⟩ = false ∧ w'.frozen? ⟨w.heap.size + 1 + 1, 2, none⟩ = false ∧ w'.frozen? ⟨w.heap.size + 1 + 1, 3, none⟩ = false ∧ w.heap.size + 1 + 1 < w'.heap.size) (by kernel_rfl) ?_ (fun hHeld => ?_)
  · refine ⟨by (repeat (first | exact New.refl _ | assumption | refine New.alloc ?_ _ | refine New.drew ?_ | refine New.drewN ?_ _ | refine New.setCell ?_ (by first | omega | (simp; omega) | (simp; done)) _ | refine New.trans ?_ (by assumption))), ?_⟩
    simp [go_sem, cv]
  refine wpAnyH_take (i := 0) (oi := _) (v := ?_) rfl (by kernel_rfl) (by kernel_rfl) (by kernel_rfl) (fun _ _ _ h => h) (Or.inl ⟨by rfl, ?_⟩) (by assumption) ?_
  rotate_left; (intro w' hSw; (try dsimp only at hSw); go_split_ands; go_simp; (try with_reducible rfl))
  try simp only [Act.put, List.setIfInBounds_toArray]
  refine wpAnyH_take (i := 1) (oi := _) (v := ?_) rfl (by kernel_rfl) (by kernel_rfl) (by kernel_rfl) (fun _ _ _ h => h) (Or.inl ⟨by rfl, ?_⟩) (by assumption) ?_
  rotate_left; (intro w' hSw; (try dsimp only at hSw); go_split_ands; go_simp; (try with_reducible rfl))
  try simp only [Act.put]
  refine wpAnyH_take (i := 2) (oi := _) (v := ?_) rfl (by kernel_rfl) (by kernel_rfl) (by kernel_rfl) (fun _ _ _ h => h) (Or.inl ⟨by rfl, ?_⟩) (by assumption) ?_
  rotate_left; (intro w' hSw; (try dsimp only at hSw); go_split_ands; go_simp; (try with_reducible rfl))
  try simp only [Act.put]
  refine wpAnyH_take (i := 3) (oi := _) (v := ?_) rfl (by kernel_rfl) (by kernel_rfl) (by kernel_rfl) (fun _ _ _ h => h) (Or.inl ⟨by rfl, ?_⟩) (by assumption) ?_
  rotate_left; (intro w' hSw; (try dsimp only at hSw); go_split_ands; go_simp; (try with_reducible rfl))
  try simp only [Act.put]
  refine wpAnyH_take (i := 4) (oi := _) (v := ?_) rfl (by kernel_rfl) (by kernel_rfl) (by kernel_rfl) (fun _ _ _ h => h) (Or.inl ⟨by rfl, ?_⟩) (by assumption) ?_
  rotate_left; (intro w' hSw; (try dsimp only at hSw); go_split_ands; go_simp; (try with_reducible rfl))
  try simp only [Act.put]
  refine wpAnyH_take (i := 5) (oi := _) (v := ?_) rfl (by kernel_rfl) (by kernel_rfl) (by kernel_rfl) (fun _ _ _ h => h) (Or.inl ⟨by rfl, ?_⟩) (by assumption) ?_
  rotate_left; (intro w' hSw; (try dsimp only at hSw); go_split_ands; go_simp; (try with_reducible rfl))
  try simp only [Act.put]
  refine wpAnyH_take (i := 6) (oi := _) (v := ?_) rfl (by kernel_rfl) (by kernel_rfl) (by kernel_rfl) (fun _ _ _ h => h) (Or.inl ⟨by rfl, ?_⟩) (by assumption) ?_
  rotate_left; (intro w' hSw; (try dsimp only at hSw); go_split_ands; go_simp; (try with_reducible rfl))
  try simp only [Act.put]
  refine wpAnyH_take (i := 7) (oi := _) (v := ?_) rfl (by kernel_rfl) (by kernel_rfl) (by kernel_rfl) (fun _ _ _ h => h) (Or.inl ⟨by rfl, ?_⟩) (by assumption) ?_
  rotate_left; (intro w' hSw; (try dsimp only at hSw); go_split_ands; go_simp; (try with_reducible rfl))
  try simp only [Act.put]
  refine wpAnyH_take (i := 8) (oi := _) (v := ?_) rfl (by kernel_rfl) (by kernel_rfl) (by kernel_rfl) (fun _ _ _ h => h) (Or.inl ⟨by rfl, ?_⟩) (by assumption) ?_
  rotate_left; (intro w' hSw; (try dsimp only at hSw); go_split_ands; go_simp; (try with_reducible rfl))
  try simp only [Act.put]
  refine wpAnyH_take (i := 9) (oi := _) (v := ?_) rfl (by kernel_rfl) (by kernel_rfl) (by kernel_rfl) (fun _ _ _ h => h) (Or.inl ⟨by rfl, ?_⟩) (by assumption) ?_
  rotate_left; (intro w' hSw; (try dsimp only at hSw); go_split_ands; go_simp; (try with_reducible rfl))
  try simp only [Act.put]
  refine wpAnyH_take (i := 10) (oi := _) (v := ?_) rfl (by kernel_rfl) (by kernel_rfl) (by kernel_rfl) (fun _ _ _ h => h) (Or.inl ⟨by rfl, ?_⟩) (by assumption) ?_
  rotate_left; (intro w' hSw; (try dsimp only at hSw); go_split_ands; go_simp; (try with_reducible rfl))
  try simp only [Act.put]
  refine wpAnyH_take (i := 12) (oi := _) (v := ?_) rfl (by kernel_rfl) (by kernel_rfl) (by kernel_rfl) (fun _ _ _ h => h) (Or.inl ⟨by rfl, ?_⟩) (by assumption) ?_
  rotate_left; (intro w' hSw; (try dsimp only at hSw); go_split_ands; go_simp; (try with_reducible rfl))
  try simp only [Act.put]
  refine wpAnyH_take (i := 15) (oi := _) (v := ?_) rfl (by kernel_rfl) (by kernel_rfl) (by kernel_rfl) (fun _ _ _ h => h) (Or.inl ⟨by rfl, ?_⟩) (by assumption) ?_
  rotate_left; (intro w' hSw; (try dsimp only at hSw); go_split_ands; go_simp; (try with_reducible rfl))
  try simp only [Act.put]
  refine wpAnyH_take (i := 17) (oi := _) (v := ?_) rfl (by kernel_rfl) (by kernel_rfl) (by kernel_rfl) (fun _ _ _ h => h) (Or.inl ⟨by rfl, ?_⟩) (by assumption) ?_
  rotate_left; (intro w' hSw; (try dsimp only at hSw); go_split_ands; go_simp; (try with_reducible rfl))
  try simp only [Act.put]
  refine wpAnyH_ready (rs := [11]) (by kernel_rfl) (by simp) ?_
  refine AllReadyH.cons (o := _) rfl (fun K hK => ?_) AllReadyH.nil
  go_simp
  (first | (go_at_call 46; go_call right_any as e w1 ⟨rfl, hb⟩) | (go_at_call 47; go_call bottom_any as e w1 ⟨rfl, hb⟩) | (go_at_call 45; go_call rectBetween_any as e w1 ⟨rfl, hb⟩))
  go_wp2_with fail
  refine hK.out _ _ ?_ (fun hH11 => ?_)
  · (with_reducible first | exact two_keep hb (by assumption) | exact two_store (by assumption))
  clear hK K
  try simp only [Act.put, List.setIfInBounds_toArray, List.set_cons_zero, List.set_cons_succ]
  refine wpAnyH_ready (rs := [13]) (by kernel_rfl) (by simp) ?_
  refine AllReadyH.cons (o := _) rfl (fun K hK => ?_) AllReadyH.nil
  go_simp
  (first | (go_at_call 46; go_call right_any as e w1 ⟨rfl, hb⟩) | (go_at_call 47; go_call bottom_any as e w1 ⟨rfl, hb⟩) | (go_at_call 45; go_call rectBetween_any as e w1 ⟨rfl, hb⟩))
  go_wp2_with fail
  refine hK.out _ _ ?_ (fun hH13 => ?_)
  · (with_reducible first | exact two_keep hb (by assumption) | exact two_store (by assumption))
  clear hK K
  try simp only [Act.put, List.setIfInBounds_toArray, List.set_cons_zero, List.set_cons_succ]
  refine wpAnyH_take (i := 14) (oi := _) (v := ?_) rfl (by kernel_rfl) (by kernel_rfl) (by kernel_rfl) (fun _ _ _ h => h) (Or.inl ⟨by rfl, ?_⟩) (by assumption) ?_
  rotate_left; (intro w' hSw; (try dsimp only at hSw); go_split_ands; go_simp; (try with_reducible rfl))
  try simp only [Act.put, List.setIfInBounds_toArray]
  refine wpAnyH_ready (rs := [16]) (by kernel_rfl) (by simp) ?_
  refine AllReadyH.cons (o := _) rfl (fun K hK => ?_) AllReadyH.nil
  go_simp
  (first | (go_at_call 46; go_call right_any as e w1 ⟨rfl, hb⟩) | (go_at_call 47; go_call bottom_any as e w1 ⟨rfl, hb⟩) | (go_at_call 45; go_call rectBetween_any as e w1 ⟨rfl, hb⟩))
  go_wp2_with fail
  refine hK.out _ _ ?_ (fun hH16 => ?_)
  · (with_reducible first | exact two_keep hb (by assumption) | exact two_store (by assumption))
  clear hK K
  try simp only [Act.put, List.setIfInBounds_toArray, List.set_cons_zero, List.set_cons_succ]
  refine wpAnyH_ready (rs := [18]) (by kernel_rfl) (by simp) ?_
  refine AllReadyH.cons (o := _) rfl (fun K hK => ?_) AllReadyH.nil
  go_simp
  (first | (go_at_call 46; go_call right_any as e w1 ⟨rfl, hb⟩) | (go_at_call 47; go_call bottom_any as e w1 ⟨rfl, hb⟩) | (go_at_call 45; go_call rectBetween_any as e w1 ⟨rfl, hb⟩))
  go_wp2_with fail
  refine hK.out _ _ ?_ (fun hH18 => ?_)
  · (with_reducible first | exact two_keep hb (by assumption) | exact two_store (by assumption))
  clear hK K
  try simp only [Act.put, List.setIfInBounds_toArray, List.set_cons_zero, List.set_cons_succ]
  refine wpAnyH_take (i := 19) (oi := _) (v := ?_) rfl (by kernel_rfl) (by kernel_rfl) (by kernel_rfl) (fun _ _ _ h => h) (Or.inl ⟨by rfl, ?_⟩) (by assumption) ?_
  rotate_left; (intro w' hSw; (try dsimp only at hSw); go_split_ands; go_simp; (try with_reducible rfl))
  try simp only [Act.put, List.setIfInBounds_toArray]
  refine wpAnyH_ready (rs := [20]) (by kernel_rfl) (by simp) ?_
  refine AllReadyH.cons (o := _) rfl (fun K hK => ?_) AllReadyH.nil
  go_simp
  (first | (go_at_call 46; go_call right_any as e w1 ⟨rfl, hb⟩) | (go_at_call 47; go_call bottom_any as e w1 ⟨rfl, hb⟩) | (go_at_call 45; go_call rectBetween_any as e w1 ⟨rfl, hb⟩))
  go_wp2_with fail
  refine hK.out _ _ ?_ (fun hH20 => ?_)
  · (with_reducible first | exact two_keep hb (by assumption) | exact two_store (by assumption))
  clear hK K
  try simp only [Act.put, List.setIfInBounds_toArray, List.set_cons_zero, List.set_cons_succ]
  refine wpAnyH_ready (rs := [21]) (by kernel_rfl) (by simp) ?_
  refine AllReadyH.cons (o := _) rfl (fun K hK => ?_) AllReadyH.nil
  go_simp
  refine hK.out _ _ ?_ (fun hH21 => ?_)
  · (with_reducible first | exact two_keep hb (by assumption) | exact two_store (by assumption))
  clear hK K
  try simp only [Act.put, List.setIfInBounds_toArray, List.set_cons_zero, List.set_cons_succ]
  refine wpAnyH_done (by kernel_rfl) ?_ _
  refine NoPanic.normal ?_
  go_wp2
  obtain ⟨h0, h1, h2, h3, h4, h5, h6, h7, h8, h9, h10, h11, h12, h13, h14, h15, h16, h17⟩ := hH20
  refine bodyPost_ret (v := rc (mx ax bx) (mx ay by') (mW ax aw bx bw) (mW ay ah by' bh)) (by simp [results, Tryz.results43, go_sem, h9, h10, h11, h12]; exact ⟨rfl, rfl⟩) rfl ⟨rfl, hH21.1⟩

end Go.Proofs.YtigniaebokknmaaGreat

/- The exported functions on rectangles, of the program and of the reference: common parts. No condition. -/
namespace Go.Proofs.YtigniaebokknmaaGreat
open Go.RowKit

set_option maxHeartbeats 1000000 in
theorem Meet_a (ax ay aw ah bx by' bw bh : Int) (w : World) (ha : vR ax ay aw ah = false) :
    Calls Tryz.prog 25 #[rc ax ay aw ah, rc bx by' bw bh] w fun e w' => e = .returned (.tuple #[rc 0 0 0 0, .bool false]) ∧ New w w' := by
  go_enter Tryz.func25, Tryz.ntmps25
  go_wp2_with (first
    | (go_at_call 37; refine (valid_any _ _ _ _ _).mono ?_; rintro e w1 ⟨rfl, hb1⟩; (first | replace hN := hN.trans hb1 | replace hN := (hN.alloc _).trans hb1 | have hN := hb1); have hc1 := hN.cells; have hf1 := hN.marks; have hd1 := hb1.cells; have he1 := hb1.marks; have z0 : w.heap.size < w1.heap.size := (by have := hN.le; first | omega | (simp at this; omega)); have z1 : w.heap.size + 1 < w1.heap.size := (by have := hN.le; first | omega | (simp at this; omega)); have z2 : w.heap.size + 1 + 1 < w1.heap.size := (by have := hN.le; first | omega | (simp at this; omega))))
  refine bodyPost_ret (v := .tuple #[rc 0 0 0 0, .bool false]) (by simp [results, Tryz.results25, go_sem, *]) rfl ⟨rfl, by (repeat (first | exact New.refl _ | assumption | refine New.alloc ?_ _ | refine New.drew ?_ | refine New.drewN ?_ _ | refine New.setCell ?_ (by first | omega | (simp; omega) | (simp; done)) _ | refine New.trans ?_ (by assumption)))⟩

set_option maxHeartbeats 1000000 in
theorem Meet_b (ax ay aw ah bx by' bw bh : Int) (w : World) (ha : vR ax ay aw ah = true) (hb : vR bx by' bw bh = false) :
    Calls Tryz.prog 25 #[rc ax ay aw ah, rc bx by' bw bh] w fun e w' => e = .returned (.tuple #[rc 0 0 0 0, .bool false]) ∧ New w w' := by
  go_enter Tryz.func25, Tryz.ntmps25
  go_wp2_with (first
    | (go_at_call 37; refine (valid_any _ _ _ _ _).mono ?_; rintro e w1 ⟨rfl, hb1⟩; (first | replace hN := hN.trans hb1 | replace hN := (hN.alloc _).trans hb1 | have hN := hb1); have hc1 := hN.cells; have hf1 := hN.marks; have hd1 := hb1.cells; have he1 := hb1.marks; have z0 : w.heap.size < w1.heap.size := (by have := hN.le; first | omega | (simp at this; omega)); have z1 : w.heap.size + 1 < w1.heap.size := (by have := hN.le; first | omega | (simp at this; omega)); have z2 : w.heap.size + 1 + 1 < w1.heap.size := (by have := hN.le; first | omega | (simp at this; omega))))
  refine bodyPost_ret (v := .tuple #[rc 0 0 0 0, .bool false]) (by simp [results, Tryz.results25, go_sem, *]) rfl ⟨rfl, by (repeat (first | exact New.refl _ | assumption | refine New.alloc ?_ _ | refine New.drew ?_ | refine New.drewN ?_ _ | refine New.setCell ?_ (by first | omega | (simp; omega) | (simp; done)) _ | refine New.trans ?_ (by assumption)))⟩

set_option maxHeartbeats 1000000 in
theorem Meet_c (ax ay aw ah bx by' bw bh : Int) (w : World) (ha : vR ax ay aw ah = true) (hb : vR bx by' bw bh = true) (h1 : mW ax aw bx bw ≤ 0) :
    Calls Tryz.prog 25 #[rc ax ay aw ah, rc bx by' bw bh] w fun e w' => e = .returned (.tuple #[rc 0 0 0 0, .bool false]) ∧ New w w' := by
  have HA := Lib.hid ha; have HB := Lib.hid hb
  go_enter Tryz.func25, Tryz.ntmps25
  go_wp2_with (first
    | (go_at_call 37; refine (valid_any _ _ _ _ _).mono ?_; rintro e w1 ⟨rfl, hb1⟩; (first | replace hN := hN.trans hb1 | replace hN := (hN.alloc _).trans hb1 | have hN := hb1); have hc1 := hN.cells; have hf1 := hN.marks; have hd1 := hb1.cells; have he1 := hb1.marks; have z0 : w.heap.size < w1.heap.size := (by have := hN.le; first | omega | (simp at this; omega)); have z1 : w.heap.size + 1 < w1.heap.size := (by have := hN.le; first | omega | (simp at this; omega)); have z2 : w.heap.size + 1 + 1 < w1.heap.size := (by have := hN.le; first | omega | (simp at this; omega)))
    | (go_at_call 43; refine (meet_any _ _ _ _ _ _ _ _ _ HA.out HB.out).mono ?_; rintro e w2 ⟨rfl, hb2⟩; (first | replace hN := hN.trans hb2 | replace hN := (hN.alloc _).trans hb2 | have hN := hb2); have hc2 := hN.cells; have hf2 := hN.marks; have hd2 := hb2.cells; have he2 := hb2.marks; have z0 : w.heap.size < w2.heap.size := (by have := hN.le; first | omega | (simp at this; omega)); have z1 : w.heap.size + 1 < w2.heap.size := (by have := hN.le; first | omega | (simp at this; omega)); have z2 : w.heap.size + 1 + 1 < w2.heap.size := (by have := hN.le; first | omega | (simp at this; omega))))
  refine bodyPost_ret (v := .tuple #[rc 0 0 0 0, .bool false]) (by simp [results, Tryz.results25, go_sem, *]) rfl ⟨rfl, by (repeat (first | exact New.refl _ | assumption | refine New.alloc ?_ _ | refine New.drew ?_ | refine New.drewN ?_ _ | refine New.setCell ?_ (by first | omega | (simp; omega) | (simp; done)) _ | refine New.trans ?_ (by assumption)))⟩

set_option maxHeartbeats 1000000 in
theorem Meet_d (ax ay aw ah bx by' bw bh : Int) (w : World) (ha : vR ax ay aw ah = true) (hb : vR bx by' bw bh = true) (h1 : 0 < mW ax aw bx bw) (h2 : mW ay ah by' bh ≤ 0) :
    Calls Tryz.prog 25 #[rc ax ay aw ah, rc bx by' bw bh] w fun e w' => e = .returned (.tuple #[rc 0 0 0 0, .bool false]) ∧ New w w' := by
  have HA := Lib.hid ha; have HB := Lib.hid hb
  go_enter Tryz.func25, Tryz.ntmps25
  go_wp2_with (first
    | (go_at_call 37; refine (valid_any _ _ _ _ _).mono ?_; rintro e w1 ⟨rfl, hb1⟩; (first | replace hN := hN.trans hb1 | replace hN := (hN.alloc _).trans hb1 | have hN := hb1); have hc1 := hN.cells; have hf1 := hN.marks; have hd1 := hb1.cells; have he1 := hb1.marks; have z0 : w.heap.size < w1.heap.size := (by have := hN.le; first | omega | (simp at this; omega)); have z1 : w.heap.size + 1 < w1.heap.size := (by have := hN.le; first | omega | (simp at this; omega)); have z2 : w.heap.size + 1 + 1 < w1.heap.size := (by have := hN.le; first | omega | (simp at this; omega)))
    | (go_at_call 43; refine (meet_any _ _ _ _ _ _ _ _ _ HA.out HB.out).mono ?_; rintro e w2 ⟨rfl, hb2⟩; (first | replace hN := hN.trans hb2 | replace hN := (hN.alloc _).trans hb2 | have hN := hb2); have hc2 := hN.cells; have hf2 := hN.marks; have hd2 := hb2.cells; have he2 := hb2.marks; have z0 : w.heap.size < w2.heap.size := (by have := hN.le; first | omega | (simp at this; omega)); have z1 : w.heap.size + 1 < w2.heap.size := (by have := hN.le; first | omega | (simp at this; omega)); have z2 : w.heap.size + 1 + 1 < w2.heap.size := (by have := hN.le; first | omega | (simp at this; omega))))
  refine bodyPost_ret (v := .tuple #[rc 0 0 0 0, .bool false]) (by simp [results, Tryz.results25, go_sem, *]) rfl ⟨rfl, by (repeat (first | exact New.refl _ | assumption | refine New.alloc ?_ _ | refine New.drew ?_ | refine New.drewN ?_ _ | refine New.setCell ?_ (by first | omega | (simp; omega) | (simp; done)) _ | refine New.trans ?_ (by assumption)))⟩

set_option maxHeartbeats 1000000 in
theorem Meet_yes (ax ay aw ah bx by' bw bh : Int) (w : World) (ha : vR ax ay aw ah = true) (hb : vR bx by' bw bh = true) (h1 : 0 < mW ax aw bx bw) (h2 : 0 < mW ay ah by' bh) :
    Calls Tryz.prog 25 #[rc ax ay aw ah, rc bx by' bw bh] w fun e w' => e = .returned (.tuple #[rc (mx ax bx) (mx ay by') (mW ax aw bx bw) (mW ay ah by' bh), .bool true]) ∧ New w w' := by
  have HA := Lib.hid ha; have HB := Lib.hid hb
  go_enter Tryz.func25, Tryz.ntmps25
  go_wp2_with (first
    | (go_at_call 37; refine (valid_any _ _ _ _ _).mono ?_; rintro e w1 ⟨rfl, hb1⟩; (first | replace hN := hN.trans hb1 | replace hN := (hN.alloc _).trans hb1 | have hN := hb1); have hc1 := hN.cells; have hf1 := hN.marks; have hd1 := hb1.cells; have he1 := hb1.marks; have z0 : w.heap.size < w1.heap.size := (by have := hN.le; first | omega | (simp at this; omega)); have z1 : w.heap.size + 1 < w1.heap.size := (by have := hN.le; first | omega | (simp at this; omega)); have z2 : w.heap.size + 1 + 1 < w1.heap.size := (by have := hN.le; first | omega | (simp at this; omega)))
    | (go_at_call 43; refine (meet_any _ _ _ _ _ _ _ _ _ HA.out HB.out).mono ?_; rintro e w2 ⟨rfl, hb2⟩; (first | replace hN := hN.trans hb2 | replace hN := (hN.alloc _).trans hb2 | have hN := hb2); have hc2 := hN.cells; have hf2 := hN.marks; have hd2 := hb2.cells; have he2 := hb2.marks; have z0 : w.heap.size < w2.heap.size := (by have := hN.le; first | omega | (simp at this; omega)); have z1 : w.heap.size + 1 < w2.heap.size := (by have := hN.le; first | omega | (simp at this; omega)); have z2 : w.heap.size + 1 + 1 < w2.heap.size := (by have := hN.le; first | omega | (simp at this; omega))))
  refine bodyPost_ret (v := .tuple #[rc (mx ax bx) (mx ay by') (mW ax aw bx bw) (mW ay ah by' bh), .bool true]) (by simp [results, Tryz.results25, go_sem, *]) rfl ⟨rfl, by (repeat (first | exact New.refl _ | assumption | refine New.alloc ?_ _ | refine New.drew ?_ | refine New.drewN ?_ _ | refine New.setCell ?_ (by first | omega | (simp; omega) | (simp; done)) _ | refine New.trans ?_ (by assumption)))⟩

end Go.Proofs.YtigniaebokknmaaGreat

/- The hull of two valid rectangles, as the program reckons it. Condition: both are valid. -/
namespace Go.Proofs.YtigniaebokknmaaGreat
open Go.RowKit

set_option maxHeartbeats 400000 in
theorem hull_any (ax ay aw ah bx by' bw bh : Int) (w : World) (hv : vR ax ay aw ah = true) (hv' : vR bx by' bw bh = true) :
    Calls Tryz.prog 28 #[rc ax ay aw ah, rc bx by' bw bh] w fun e w' => e = .returned (rc (mn ax bx) (mn ay by') (uW ax aw bx bw) (uW ay ah by' bh)) ∧ New w w' := by
  obtain ⟨a1, a2, a3, a4, a5, a6, a7, a8⟩ := vR_iff.1 hv
  obtain ⟨b1, b2, b3, b4, b5, b6, b7, b8⟩ := vR_iff.1 hv'
  clear hv hv'
  have m1 := mn_bd ⟨a1, a2⟩ ⟨b1, b2⟩
  have m2 := mn_bd ⟨a3, a4⟩ ⟨b3, b4⟩
  have m3 := mx_bd (a := ax + aw) (b := bx + bw) (l := -100000) (u := 300000) (by omega) (by omega)
  have m4 := mx_bd (a := ay + ah) (b := by' + bh) (l := -100000) (u := 300000) (by omega) (by omega)
  have hmx := run_mx Tryz.prog
  have hmn := run_mn Tryz.prog
  go_enter Tryz.func28, Tryz.ntmps28
  go_wp2
  refine wp_region_noPanic ?_
  refine wp_region_held_drew (S := fun w' => New w w' ∧ w'.cell? ⟨w.heap.size, 0, none⟩ = some (.int .i64 ax) ∧ w'.cell? ⟨w.heap.size, 1, none⟩ = some (.int .i64 ay) ∧ w'.cell? ⟨w.heap.size, 2, none⟩ = some (.int .i64 aw) ∧ w'.cell? ⟨w.heap.size, 3, none⟩ = some (.int .i64 ah) ∧ w'.cell? ⟨w.heap.size + 1, 0, none⟩ = some (.int .i64 bx) ∧ w'.cell? ⟨w.heap.size + 1, 1, none⟩ = some (.int .i64 by') ∧ w'.cell? ⟨w.heap.size + 1, 2, none⟩ = some (.int .i64 bw) ∧ w'.cell? ⟨w.heap.size + 1, 3, none⟩ = some (.int .i64 bh) ∧ w'.cell? ⟨w.heap.size + 1 + 1, 0, none⟩ = some (cv w' ⟨w.heap.size + 1 + 1, 0, none⟩) ∧ w'.cell? ⟨w.heap.size + 1 + 1, 1, none⟩ = some (cv w' ⟨w.heap.size + 1 + 1, 1, none⟩) ∧ w'.cell? ⟨w.heap.size + 1 + 1, 2, none⟩ = some (cv w' ⟨w.heap.size + 1 + 1, 2, none⟩) ∧ w'.cell? ⟨w.heap.size + 1 + 1, 3, none⟩ = some (cv w' ⟨w.heap.size + 1 + 1, 3, none⟩) ∧ w'.frozen? ⟨w.heap.size + 1 + 1, 0, none⟩ = false ∧ w'.frozen? ⟨w.heap.size + 1 + 1, 1, none⟩ = false ∧ w'.frozen? ⟨w.heap.size + 1 + 1, 2, none⟩ = false ∧ w'.frozen? ⟨w.heap.size + 1 + 1, 3, none⟩ = false ∧ w.heap.size + 1 + 1 < w'.heap.size) (by kernel_rfl) ?_ (fun hHeld => ?_)
  · refine ⟨by (repeat (first | exact New.refl _ | assumption | refine New.alloc ?_ _ | refine New.drew ?_ | refine New.drewN ?_ _ | refine New.setCell ?_ (by first | omega | (simp; omega) | (simp; done)) _ | refine New.trans ?_ (by assumption))), ?_⟩
    simp [go_sem, cv]
  refine wpAnyH_take (i := 0) (oi := _) (v := ?_) rfl (by kernel_rfl) (by kernel_rfl) (by kernel_rfl) (fun _ _ _ h => h) (Or.inl ⟨by rfl, ?_⟩) (by assumption) ?_
  rotate_left; (intro w' hSw; (try dsimp only at hSw); go_split_ands; go_simp; (try with_reducible rfl))
  try simp only [Act.put, List.setIfInBounds_toArray]
  refine wpAnyH_take (i := 1) (oi := _) (v := ?_) rfl (by kernel_rfl) (by kernel_rfl) (by kernel_rfl) (fun _ _ _ h => h) (Or.inl ⟨by rfl, ?_⟩) (by assumption) ?_
  rotate_left; (intro w' hSw; (try dsimp only at hSw); go_split_ands; go_simp; (try with_reducible rfl))
  try simp only [Act.put]
  refine wpAnyH_take (i := 2) (oi := _) (v := ?_) rfl (by kernel_rfl) (by kernel_rfl) (by kernel_rfl) (fun _ _ _ h => h) (Or.inl ⟨by rfl, ?_⟩) (by assumption) ?_
  rotate_left; (intro w' hSw; (try dsimp only at hSw); go_split_ands; go_simp; (try with_reducible rfl))
  try simp only [Act.put]
  refine wpAnyH_take (i := 3) (oi := _) (v := ?_) rfl (by kernel_rfl) (by kernel_rfl) (by kernel_rfl) (fun _ _ _ h => h) (Or.inl ⟨by rfl, ?_⟩) (by assumption) ?_
  rotate_left; (intro w' hSw; (try dsimp only at hSw); go_split_ands; go_simp; (try with_reducible rfl))
  try simp only [Act.put]
  refine wpAnyH_take (i := 4) (oi := _) (v := ?_) rfl (by kernel_rfl) (by kernel_rfl) (by kernel_rfl) (fun _ _ _ h => h) (Or.inl ⟨by rfl, ?_⟩) (by assumption) ?_
  rotate_left; (intro w' hSw; (try dsimp only at hSw); go_split_ands; go_simp; (try with_reducible rfl))
  try simp only [Act.put]
  refine wpAnyH_take (i := 5) (oi := _) (v := ?_) rfl (by kernel_rfl) (by kernel_rfl) (by kernel_rfl) (fun _ _ _ h => h) (Or.inl ⟨by rfl, ?_⟩) (by assumption) ?_
  rotate_left; (intro w' hSw; (try dsimp only at hSw); go_split_ands; go_simp; (try with_reducible rfl))
  try simp only [Act.put]
  refine wpAnyH_take (i := 6) (oi := _) (v := ?_) rfl (by kernel_rfl) (by kernel_rfl) (by kernel_rfl) (fun _ _ _ h => h) (Or.inl ⟨by rfl, ?_⟩) (by assumption) ?_
  rotate_left; (intro w' hSw; (try dsimp only at hSw); go_split_ands; go_simp; (try with_reducible rfl))
  try simp only [Act.put]
  refine wpAnyH_take (i := 7) (oi := _) (v := ?_) rfl (by kernel_rfl) (by kernel_rfl) (by kernel_rfl) (fun _ _ _ h => h) (Or.inl ⟨by rfl, ?_⟩) (by assumption) ?_
  rotate_left; (intro w' hSw; (try dsimp only at hSw); go_split_ands; go_simp; (try with_reducible rfl))
  try simp only [Act.put]
  refine wpAnyH_take (i := 8) (oi := _) (v := ?_) rfl (by kernel_rfl) (by kernel_rfl) (by kernel_rfl) (fun _ _ _ h => h) (Or.inl ⟨by rfl, ?_⟩) (by assumption) ?_
  rotate_left; (intro w' hSw; (try dsimp only at hSw); go_split_ands; go_simp; (try with_reducible rfl))
  try simp only [Act.put]
  refine wpAnyH_take (i := 9) (oi := _) (v := ?_) rfl (by kernel_rfl) (by kernel_rfl) (by kernel_rfl) (fun _ _ _ h => h) (Or.inl ⟨by rfl, ?_⟩) (by assumption) ?_
  rotate_left; (intro w' hSw; (try dsimp only at hSw); go_split_ands; go_simp; (try with_reducible rfl))
  try simp only [Act.put]
  refine wpAnyH_take (i := 10) (oi := _) (v := ?_) rfl (by kernel_rfl) (by kernel_rfl) (by kernel_rfl) (fun _ _ _ h => h) (Or.inl ⟨by rfl, ?_⟩) (by assumption) ?_
  rotate_left; (intro w' hSw; (try dsimp only at hSw); go_split_ands; go_simp; (try with_reducible rfl))
  try simp only [Act.put]
  refine wpAnyH_take (i := 12) (oi := _) (v := ?_) rfl (by kernel_rfl) (by kernel_rfl) (by kernel_rfl) (fun _ _ _ h => h) (Or.inl ⟨by rfl, ?_⟩) (by assumption) ?_
  rotate_left; (intro w' hSw; (try dsimp only at hSw); go_split_ands; go_simp; (try with_reducible rfl))
  try simp only [Act.put]
  refine wpAnyH_take (i := 15) (oi := _) (v := ?_) rfl (by kernel_rfl) (by kernel_rfl) (by kernel_rfl) (fun _ _ _ h => h) (Or.inl ⟨by rfl, ?_⟩) (by assumption) ?_
  rotate_left; (intro w' hSw; (try dsimp only at hSw); go_split_ands; go_simp; (try with_reducible rfl))
  try simp only [Act.put]
  refine wpAnyH_take (i := 17) (oi := _) (v := ?_) rfl (by kernel_rfl) (by kernel_rfl) (by kernel_rfl) (fun _ _ _ h => h) (Or.inl ⟨by rfl, ?_⟩) (by assumption) ?_
  rotate_left; (intro w' hSw; (try dsimp only at hSw); go_split_ands; go_simp; (try with_reducible rfl))
  try simp only [Act.put]
  refine wpAnyH_ready (rs := [11]) (by kernel_rfl) (by simp) ?_
  refine AllReadyH.cons (o := _) rfl (fun K hK => ?_) AllReadyH.nil
  go_simp
  (first | (go_at_call 46; go_call right_any as e w1 ⟨rfl, hb⟩) | (go_at_call 47; go_call bottom_any as e w1 ⟨rfl, hb⟩) | (go_at_call 45; go_call rectBetween_any as e w1 ⟨rfl, hb⟩))
  go_wp2_with fail
  refine hK.out _ _ ?_ (fun hH11 => ?_)
  · (with_reducible first | exact two_keep hb (by assumption) | exact two_store (by assumption))
  clear hK K
  try simp only [Act.put, List.setIfInBounds_toArray, List.set_cons_zero, List.set_cons_succ]
  refine wpAnyH_ready (rs := [13]) (by kernel_rfl) (by simp) ?_
  refine AllReadyH.cons (o := _) rfl (fun K hK => ?_) AllReadyH.nil
  go_simp
  (first | (go_at_call 46; go_call right_any as e w1 ⟨rfl, hb⟩) | (go_at_call 47; go_call bottom_any as e w1 ⟨rfl, hb⟩) | (go_at_call 45; go_call rectBetween_any as e w1 ⟨rfl, hb⟩))
  go_wp2_with fail
  refine hK.out _ _ ?_ (fun hH13 => ?_)
  · (with_reducible first | exact two_keep hb (by assumption) | exact two_store (by assumption))
  clear hK K
  try simp only [Act.put, List.setIfInBounds_toArray, List.set_cons_zero, List.set_cons_succ]
  refine wpAnyH_take (i := 14) (oi := _) (v := ?_) rfl (by kernel_rfl) (by kernel_rfl) (by kernel_rfl) (fun _ _ _ h => h) (Or.inl ⟨by rfl, ?_⟩) (by assumption) ?_
  rotate_left; (intro w' hSw; (try dsimp only at hSw); go_split_ands; go_simp; (try with_reducible rfl))
  try simp only [Act.put, List.setIfInBounds_toArray]
  refine wpAnyH_ready (rs := [16]) (by kernel_rfl) (by simp) ?_
  refine AllReadyH.cons (o := _) rfl (fun K hK => ?_) AllReadyH.nil
  go_simp
  (first | (go_at_call 46; go_call right_any as e w1 ⟨rfl, hb⟩) | (go_at_call 47; go_call bottom_any as e w1 ⟨rfl, hb⟩) | (go_at_call 45; go_call rectBetween_any as e w1 ⟨rfl, hb⟩))
  go_wp2_with fail
  refine hK.out _ _ ?_ (fun hH16 => ?_)
  · (with_reducible first | exact two_keep hb (by assumption) | exact two_store (by assumption))
  clear hK K
  try simp only [Act.put, List.setIfInBounds_toArray, List.set_cons_zero, List.set_cons_succ]
  refine wpAnyH_ready (rs := [18]) (by kernel_rfl) (by simp) ?_
  refine AllReadyH.cons (o := _) rfl (fun K hK => ?_) AllReadyH.nil
  go_simp
  (first | (go_at_call 46; go_call right_any as e w1 ⟨rfl, hb⟩) | (go_at_call 47; go_call bottom_any as e w1 ⟨rfl, hb⟩) | (go_at_call 45; go_call rectBetween_any as e w1 ⟨rfl, hb⟩))
  go_wp2_with fail
  refine hK.out _ _ ?_ (fun hH18 => ?_)
  · (with_reducible first | exact two_keep hb (by assumption) | exact two_store (by assumption))
  clear hK K
  try simp only [Act.put, List.setIfInBounds_toArray, List.set_cons_zero, List.set_cons_succ]
  refine wpAnyH_take (i := 19) (oi := _) (v := ?_) rfl (by kernel_rfl) (by kernel_rfl) (by kernel_rfl) (fun _ _ _ h => h) (Or.inl ⟨by rfl, ?_⟩) (by assumption) ?_
  rotate_left; (intro w' hSw; (try dsimp only at hSw); go_split_ands; go_simp; (try with_reducible rfl))
  try simp only [Act.put, List.setIfInBounds_toArray]
  refine wpAnyH_ready (rs := [20]) (by kernel_rfl) (by simp) ?_
  refine AllReadyH.cons (o := _) rfl (fun K hK => ?_) AllReadyH.nil
  go_simp
  (first | (go_at_call 46; go_call right_any as e w1 ⟨rfl, hb⟩) | (go_at_call 47; go_call bottom_any as e w1 ⟨rfl, hb⟩) | (go_at_call 45; go_call rectBetween_any as e w1 ⟨rfl, hb⟩))
  go_wp2_with fail
  refine hK.out _ _ ?_ (fun hH20 => ?_)
  · (with_reducible first | exact two_keep hb (by assumption) | exact two_store (by assumption))
  clear hK K
  try simp only [Act.put, List.setIfInBounds_toArray, List.set_cons_zero, List.set_cons_succ]
  refine wpAnyH_ready (rs := [21]) (by kernel_rfl) (by simp) ?_
  refine AllReadyH.cons (o := _) rfl (fun K hK => ?_) AllReadyH.nil
  go_simp
  refine hK.out _ _ ?_ (fun hH21 => ?_)
  · (with_reducible first | exact two_keep hb (by assumption) | exact two_store (by assumption))
  clear hK K
  try simp only [Act.put, List.setIfInBounds_toArray, List.set_cons_zero, List.set_cons_succ]
  refine wpAnyH_done (by kernel_rfl) ?_ _
  refine NoPanic.normal ?_
  go_wp2
  obtain ⟨h0, h1, h2, h3, h4, h5, h6, h7, h8, h9, h10, h11, h12, h13, h14, h15, h16, h17⟩ := hH20
  refine bodyPost_ret (v := rc (mn ax bx) (mn ay by') (uW ax aw bx bw) (uW ay ah by' bh)) (by simp [results, Tryz.results28, go_sem, h9, h10, h11, h12]; exact ⟨rfl, rfl⟩) rfl ⟨rfl, hH21.1⟩

end Go.Proofs.YtigniaebokknmaaGreat

/- The exported functions on rectangles, of the program and of the reference: hulls. No condition. -/
namespace Go.Proofs.YtigniaebokknmaaGreat
open Go.RowKit

end Go.Proofs.YtigniaebokknmaaGreat

/- The exported functions on rectangles, of the program and of the reference: insets. No condition. -/
namespace Go.Proofs.YtigniaebokknmaaGreat
open Go.RowKit

/-- An edge is in its range. -/
def eB (e : Int) : Bool := decide (0 ≤ e ∧ e ≤ 50)
theorem eB_iff {e : Int} : eB e = true ↔ 0 ≤ e ∧ e ≤ 50 := by unfold eB; simp
theorem within_e (n : Int) (w : World) : Calls Tryz.prog 30 #[.int .i64 n, .int .i64 0, .int .i64 50] w fun e w' => e = .returned (.bool (eB n)) ∧ w = w' := within_any n 0 50 w
theorem inRange_e (n : Int) (w : World) : Calls Tryz.prog 40 #[.int .i64 n, .int .i64 0, .int .i64 50] w fun e w' => e = .returned (.bool (eB n)) ∧ w = w' := inRange_any n 0 50 w
theorem inset_e (x y ww h ed : Int) (w : World) (hv : vR x y ww h = true) (he : eB ed = true) :
    Calls Tryz.prog 27 #[rc x y ww h, .int .i64 ed] w fun e w' => e = .returned (rc (nL x ww ed) (nL y h ed) (nW ww ed) (nW h ed)) ∧ New w w' := inset_any x y ww h ed w hv (eB_iff.1 he).1 (eB_iff.1 he).2
theorem sinset_e (x y ww h ed : Int) (w : World) (hv : vR x y ww h = true) (he : eB ed = true) :
    Calls Tryz.prog 32 #[rc x y ww h, .int .i64 ed] w fun e w' => e = .returned (rc (nL x ww ed) (nL y h ed) (nW ww ed) (nW h ed)) ∧ New w w' := sinset_any x y ww h ed w hv (eB_iff.1 he).1 (eB_iff.1 he).2

end Go.Proofs.YtigniaebokknmaaGreat

/- The exported functions on rectangles, each told once: the program and the reference give the same four numbers and the same truth value. No condition. -/
namespace Go.Proofs.YtigniaebokknmaaGreat
open Go.RowKit

/-- A number that is shown only where a test holds. -/
def ifB (b : Bool) (n : Int) : Int := if b then n else 0
theorem ifB_yes {b : Bool} (h : b = true) (n : Int) : ifB b n = n := by rw [h]; rfl
theorem ifB_no {b : Bool} (h : b = false) (n : Int) : ifB b n = 0 := by rw [h]; rfl
/-- Common parts. -/
def mA (ax ay aw ah bx by' bw bh : Int) : Int := ifB (mOk ax ay aw ah bx by' bw bh) (mx ax bx)
def mB (ax ay aw ah bx by' bw bh : Int) : Int := ifB (mOk ax ay aw ah bx by' bw bh) (mx ay by')
def mC (ax ay aw ah bx by' bw bh : Int) : Int := ifB (mOk ax ay aw ah bx by' bw bh) (mW ax aw bx bw)
def mD (ax ay aw ah bx by' bw bh : Int) : Int := ifB (mOk ax ay aw ah bx by' bw bh) (mW ay ah by' bh)
/-- Hulls. -/
def uA (ax ay aw ah bx by' bw bh : Int) : Int := ifB (uOk ax ay aw ah bx by' bw bh) (mn ax bx)
def uB (ax ay aw ah bx by' bw bh : Int) : Int := ifB (uOk ax ay aw ah bx by' bw bh) (mn ay by')
def uC (ax ay aw ah bx by' bw bh : Int) : Int := ifB (uOk ax ay aw ah bx by' bw bh) (uW ax aw bx bw)
def uD (ax ay aw ah bx by' bw bh : Int) : Int := ifB (uOk ax ay aw ah bx by' bw bh) (uW ay ah by' bh)
/-- Insets. -/
def iOk (x y w h e : Int) : Bool := vR x y w h && eB e && vR (nL x w e) (nL y h e) (nW w e) (nW h e)
def nA (x y w h e : Int) : Int := ifB (iOk x y w h e) (nL x w e)
def nB (x y w h e : Int) : Int := ifB (iOk x y w h e) (nL y h e)
def nC (x y w h e : Int) : Int := ifB (iOk x y w h e) (nW w e)
def nD (x y w h e : Int) : Int := ifB (iOk x y w h e) (nW h e)

theorem MeetRects_any (ax ay aw ah bx by' bw bh : Int) (w : World) :
    Calls Tryz.prog 25 #[rc ax ay aw ah, rc bx by' bw bh] w fun e w' => e = .returned (.tuple #[rc (mA ax ay aw ah bx by' bw bh) (mB ax ay aw ah bx by' bw bh) (mC ax ay aw ah bx by' bw bh) (mD ax ay aw ah bx by' bw bh), .bool (mOk ax ay aw ah bx by' bw bh)]) ∧ New w w' := by
  have no : mOk ax ay aw ah bx by' bw bh = false → ∀ e : Ending, e = .returned (.tuple #[rc 0 0 0 0, .bool false]) → e = .returned (.tuple #[rc (mA ax ay aw ah bx by' bw bh) (mB ax ay aw ah bx by' bw bh) (mC ax ay aw ah bx by' bw bh) (mD ax ay aw ah bx by' bw bh), .bool (mOk ax ay aw ah bx by' bw bh)]) := fun h e he => by
    rw [he]; unfold mA mB mC mD; rw [ifB_no h, ifB_no h, ifB_no h, ifB_no h, h]
  cases ha : vR ax ay aw ah
  · exact (Meet_a ax ay aw ah bx by' bw bh w ha).mono fun e w' ⟨he, hN⟩ => ⟨no (by unfold mOk; rw [ha]; rfl) e he, hN⟩
  cases hb : vR bx by' bw bh
  · exact (Meet_b ax ay aw ah bx by' bw bh w ha hb).mono fun e w' ⟨he, hN⟩ => ⟨no (by unfold mOk; rw [ha, hb]; rfl) e he, hN⟩
  by_cases h1 : 0 < mW ax aw bx bw
  · by_cases h2 : 0 < mW ay ah by' bh
    · have ok : mOk ax ay aw ah bx by' bw bh = true := mOk_iff.2 ⟨ha, hb, h1, h2⟩
      refine (Meet_yes ax ay aw ah bx by' bw bh w ha hb h1 h2).mono fun e w' ⟨he, hN⟩ => ⟨?_, hN⟩
      rw [he]; unfold mA mB mC mD; rw [ifB_yes ok, ifB_yes ok, ifB_yes ok, ifB_yes ok, ok]
    · exact (Meet_d ax ay aw ah bx by' bw bh w ha hb h1 (by omega)).mono fun e w' ⟨he, hN⟩ => ⟨no (Bool.eq_false_iff.2 fun hm => absurd (mOk_iff.1 hm).2.2.2 h2) e he, hN⟩
  · exact (Meet_c ax ay aw ah bx by' bw bh w ha hb (by omega)).mono fun e w' ⟨he, hN⟩ => ⟨no (Bool.eq_false_iff.2 fun hm => absurd (mOk_iff.1 hm).2.2.1 h1) e he, hN⟩

end Go.Proofs.YtigniaebokknmaaGreat
