/- The words for the numbers of a box: the program's list of words with the places of the numbers. Condition: the box is somewhere. -/
import Derived.Test.YtffggmjhaaehlaaGreatDoorTxtM
namespace Go.Proofs.YtffggmjhaaehlaaGreatDoor
open Go.RowKit

set_option maxRecDepth 100000 in
set_option maxHeartbeats 2000000 in
theorem styleWords_any (g : Nat) (w : World) : Calls Tryz.prog 57 #[.pointer (some ⟨g, 0, none⟩)] w fun e w' =>
    ∃ f, e = .returned (.slice (some ⟨f, 0, none⟩) 5 5) ∧ New w w' ∧ w.heap.size ≤ f ∧ f < w'.heap.size ∧ ∀ j, j < 5 → w'.cell? ⟨f, j * 2, none⟩ = some (str (nm j)) ∧ w'.cell? ⟨f, j * 2 + 1, none⟩ = some (.pointer (some ⟨g, 4 + j, none⟩)) := by
  have ND := Lib.hid (New.refl w).drew
  go_enter Tryz.func57, Tryz.ntmps57
  go_wp2
  refine wp_region_noPanic ?_
  refine wp_region_held_drew (S := fun _ => True) (by kernel_rfl) (trivial) (fun hHeld => ?_)
  generalize w.drew = Vd at ND hHeld ⊢
  refine wpAnyH_take (i := 0) (oi := _) (v := ?_) rfl (by kernel_rfl) (by kernel_rfl) (by kernel_rfl) (fun _ _ _ h => h) (Or.inl ⟨by kernel_rfl, ?_⟩) (by assumption) ?_
  rotate_left; (intro w' hSw; (try dsimp only at hSw); go_split_ands; go_simp; (try with_reducible rfl))
  try dsimp only [Act.put]
  refine wpAnyH_take (i := 1) (oi := _) (v := ?_) rfl (by kernel_rfl) (by kernel_rfl) (by kernel_rfl) (fun _ _ _ h => h) (Or.inl ⟨by kernel_rfl, ?_⟩) (by assumption) ?_
  rotate_left; (intro w' hSw; (try dsimp only at hSw); go_split_ands; go_simp; (try with_reducible rfl))
  try dsimp only [Act.put]
  refine wpAnyH_take (i := 2) (oi := _) (v := ?_) rfl (by kernel_rfl) (by kernel_rfl) (by kernel_rfl) (fun _ _ _ h => h) (Or.inl ⟨by kernel_rfl, ?_⟩) (by assumption) ?_
  rotate_left; (intro w' hSw; (try dsimp only at hSw); go_split_ands; go_simp; (try with_reducible rfl))
  try dsimp only [Act.put]
  refine wpAnyH_take (i := 3) (oi := _) (v := ?_) rfl (by kernel_rfl) (by kernel_rfl) (by kernel_rfl) (fun _ _ _ h => h) (Or.inl ⟨by kernel_rfl, ?_⟩) (by assumption) ?_
  rotate_left; (intro w' hSw; (try dsimp only at hSw); go_split_ands; go_simp; (try with_reducible rfl))
  try dsimp only [Act.put]
  refine wpAnyH_take (i := 4) (oi := _) (v := ?_) rfl (by kernel_rfl) (by kernel_rfl) (by kernel_rfl) (fun _ _ _ h => h) (Or.inl ⟨by kernel_rfl, ?_⟩) (by assumption) ?_
  rotate_left; (intro w' hSw; (try dsimp only at hSw); go_split_ands; go_simp; (try with_reducible rfl))
  try dsimp only [Act.put]
  refine wpAnyH_take (i := 5) (oi := _) (v := ?_) rfl (by kernel_rfl) (by kernel_rfl) (by kernel_rfl) (fun _ _ _ h => h) (Or.inl ⟨by kernel_rfl, ?_⟩) (by assumption) ?_
  rotate_left; (intro w' hSw; (try dsimp only at hSw); go_split_ands; go_simp; (try with_reducible rfl))
  try dsimp only [Act.put]
  refine wpAnyH_take (i := 6) (oi := _) (v := ?_) rfl (by kernel_rfl) (by kernel_rfl) (by kernel_rfl) (fun _ _ _ h => h) (Or.inl ⟨by kernel_rfl, ?_⟩) (by assumption) ?_
  rotate_left; (intro w' hSw; (try dsimp only at hSw); go_split_ands; go_simp; (try with_reducible rfl))
  try dsimp only [Act.put]
  refine wpAnyH_take (i := 7) (oi := _) (v := ?_) rfl (by kernel_rfl) (by kernel_rfl) (by kernel_rfl) (fun _ _ _ h => h) (Or.inl ⟨by kernel_rfl, ?_⟩) (by assumption) ?_
  rotate_left; (intro w' hSw; (try dsimp only at hSw); go_split_ands; go_simp; (try with_reducible rfl))
  try dsimp only [Act.put]
  refine wpAnyH_take (i := 8) (oi := _) (v := ?_) rfl (by kernel_rfl) (by kernel_rfl) (by kernel_rfl) (fun _ _ _ h => h) (Or.inl ⟨by kernel_rfl, ?_⟩) (by assumption) ?_
  rotate_left; (intro w' hSw; (try dsimp only at hSw); go_split_ands; go_simp; (try with_reducible rfl))
  try dsimp only [Act.put]
  refine wpAnyH_take (i := 9) (oi := _) (v := ?_) rfl (by kernel_rfl) (by kernel_rfl) (by kernel_rfl) (fun _ _ _ h => h) (Or.inl ⟨by kernel_rfl, ?_⟩) (by assumption) ?_
  rotate_left; (intro w' hSw; (try dsimp only at hSw); go_split_ands; go_simp; (try with_reducible rfl))
  try dsimp only [Act.put]
  refine wpAnyH_take (i := 10) (oi := _) (v := ?_) rfl (by kernel_rfl) (by kernel_rfl) (by kernel_rfl) (fun _ _ _ h => h) (Or.inl ⟨by kernel_rfl, ?_⟩) (by assumption) ?_
  rotate_left; (intro w' hSw; (try dsimp only at hSw); go_split_ands; go_simp; (try with_reducible rfl))
  try dsimp only [Act.put]
  refine wpAnyH_take (i := 11) (oi := _) (v := ?_) rfl (by kernel_rfl) (by kernel_rfl) (by kernel_rfl) (fun _ _ _ h => h) (Or.inl ⟨by kernel_rfl, ?_⟩) (by assumption) ?_
  rotate_left; (intro w' hSw; (try dsimp only at hSw); go_split_ands; go_simp; (try with_reducible rfl))
  try dsimp only [Act.put]
  refine wpAnyH_take (i := 12) (oi := _) (v := ?_) rfl (by kernel_rfl) (by kernel_rfl) (by kernel_rfl) (fun _ _ _ h => h) (Or.inl ⟨by kernel_rfl, ?_⟩) (by assumption) ?_
  rotate_left; (intro w' hSw; (try dsimp only at hSw); go_split_ands; go_simp; (try with_reducible rfl))
  try dsimp only [Act.put]
  refine wpAnyH_take (i := 13) (oi := _) (v := ?_) rfl (by kernel_rfl) (by kernel_rfl) (by kernel_rfl) (fun _ _ _ h => h) (Or.inl ⟨by kernel_rfl, ?_⟩) (by assumption) ?_
  rotate_left; (intro w' hSw; (try dsimp only at hSw); go_split_ands; go_simp; (try with_reducible rfl))
  try dsimp only [Act.put]
  refine wpAnyH_take (i := 14) (oi := _) (v := ?_) rfl (by kernel_rfl) (by kernel_rfl) (by kernel_rfl) (fun _ _ _ h => h) (Or.inl ⟨by kernel_rfl, ?_⟩) (by assumption) ?_
  rotate_left; (intro w' hSw; (try dsimp only at hSw); go_split_ands; go_simp; (try with_reducible rfl))
  try dsimp only [Act.put]
  refine wpAnyH_take (i := 15) (oi := _) (v := ?_) rfl (by kernel_rfl) (by kernel_rfl) (by kernel_rfl) (fun _ _ _ h => h) (Or.inl ⟨by kernel_rfl, ?_⟩) (by assumption) ?_
  rotate_left; (intro w' hSw; (try dsimp only at hSw); go_split_ands; go_simp; (try with_reducible rfl))
  try dsimp only [Act.put]
  refine wpAnyH_take (i := 16) (oi := _) (v := ?_) rfl (by kernel_rfl) (by kernel_rfl) (by kernel_rfl) (fun _ _ _ h => h) (Or.inl ⟨by kernel_rfl, ?_⟩) (by assumption) ?_
  rotate_left; (intro w' hSw; (try dsimp only at hSw); go_split_ands; go_simp; (try with_reducible rfl))
  try dsimp only [Act.put]
  refine wpAnyH_take (i := 17) (oi := _) (v := ?_) rfl (by kernel_rfl) (by kernel_rfl) (by kernel_rfl) (fun _ _ _ h => h) (Or.inl ⟨by kernel_rfl, ?_⟩) (by assumption) ?_
  rotate_left; (intro w' hSw; (try dsimp only at hSw); go_split_ands; go_simp; (try with_reducible rfl))
  try dsimp only [Act.put]
  refine wpAnyH_take (i := 18) (oi := _) (v := ?_) rfl (by kernel_rfl) (by kernel_rfl) (by kernel_rfl) (fun _ _ _ h => h) (Or.inl ⟨by kernel_rfl, ?_⟩) (by assumption) ?_
  rotate_left; (intro w' hSw; (try dsimp only at hSw); go_split_ands; go_simp; (try with_reducible rfl))
  try dsimp only [Act.put]
  refine wpAnyH_take (i := 19) (oi := _) (v := ?_) rfl (by kernel_rfl) (by kernel_rfl) (by kernel_rfl) (fun _ _ _ h => h) (Or.inl ⟨by kernel_rfl, ?_⟩) (by assumption) ?_
  rotate_left; (intro w' hSw; (try dsimp only at hSw); go_split_ands; go_simp; (try with_reducible rfl))
  try dsimp only [Act.put]
  refine wpAnyH_ready (rs := [20]) (by kernel_rfl) (by simp) ?_
  refine AllReadyH.cons (o := _) rfl (fun K hK => ?_) AllReadyH.nil
  go_simp
  refine hK.out _ _ (trivial) (fun hH20 => ?_)
  clear hK K
  try dsimp only [Act.put]
  have NL := Lib.hid (ND.out.alloc (.cells #[.string { data := #[112, 97, 100] }, .pointer (some ⟨g, 4, none⟩), .string { data := #[103, 97, 112] }, .pointer (some ⟨g, 5, none⟩), .string { data := #[103, 114, 111, 119] }, .pointer (some ⟨g, 6, none⟩), .string { data := #[115, 104, 114, 105, 110, 107] }, .pointer (some ⟨g, 7, none⟩), .string { data := #[106, 117, 115, 116, 105, 102, 121] }, .pointer (some ⟨g, 8, none⟩)] 94))
  have FS : ∀ j, j < 5 → (Vd.alloc (.cells #[.string { data := #[112, 97, 100] }, .pointer (some ⟨g, 4, none⟩), .string { data := #[103, 97, 112] }, .pointer (some ⟨g, 5, none⟩), .string { data := #[103, 114, 111, 119] }, .pointer (some ⟨g, 6, none⟩), .string { data := #[115, 104, 114, 105, 110, 107] }, .pointer (some ⟨g, 7, none⟩), .string { data := #[106, 117, 115, 116, 105, 102, 121] }, .pointer (some ⟨g, 8, none⟩)] 94)).cell? ⟨Vd.heap.size, j * 2, none⟩ = some (str (nm j)) ∧ (Vd.alloc (.cells #[.string { data := #[112, 97, 100] }, .pointer (some ⟨g, 4, none⟩), .string { data := #[103, 97, 112] }, .pointer (some ⟨g, 5, none⟩), .string { data := #[103, 114, 111, 119] }, .pointer (some ⟨g, 6, none⟩), .string { data := #[115, 104, 114, 105, 110, 107] }, .pointer (some ⟨g, 7, none⟩), .string { data := #[106, 117, 115, 116, 105, 102, 121] }, .pointer (some ⟨g, 8, none⟩)] 94)).cell? ⟨Vd.heap.size, j * 2 + 1, none⟩ = some (.pointer (some ⟨g, 4 + j, none⟩)) := fun j hj => by
    rcases (show j = 0 ∨ j = 1 ∨ j = 2 ∨ j = 3 ∨ j = 4 by omega) with rfl | rfl | rfl | rfl | rfl <;> simp [go_sem, nm]
  have FZ : Vd.heap.size < (Vd.alloc (.cells #[.string { data := #[112, 97, 100] }, .pointer (some ⟨g, 4, none⟩), .string { data := #[103, 97, 112] }, .pointer (some ⟨g, 5, none⟩), .string { data := #[103, 114, 111, 119] }, .pointer (some ⟨g, 6, none⟩), .string { data := #[115, 104, 114, 105, 110, 107] }, .pointer (some ⟨g, 7, none⟩), .string { data := #[106, 117, 115, 116, 105, 102, 121] }, .pointer (some ⟨g, 8, none⟩)] 94)).heap.size := by simp
  have F0 := ND.out.le
  generalize Vd.alloc (.cells #[.string { data := #[112, 97, 100] }, .pointer (some ⟨g, 4, none⟩), .string { data := #[103, 97, 112] }, .pointer (some ⟨g, 5, none⟩), .string { data := #[103, 114, 111, 119] }, .pointer (some ⟨g, 6, none⟩), .string { data := #[115, 104, 114, 105, 110, 107] }, .pointer (some ⟨g, 7, none⟩), .string { data := #[106, 117, 115, 116, 105, 102, 121] }, .pointer (some ⟨g, 8, none⟩)] 94) = VL at *
  generalize Vd.heap.size = f at *
  have FS := Lib.hid FS
  refine wpAnyH_ready (rs := [21]) (by kernel_rfl) (by simp) ?_
  refine AllReadyH.cons (o := _) rfl (fun K hK => ?_) AllReadyH.nil
  go_simp
  refine hK.out _ _ (trivial) (fun hH21 => ?_)
  clear hK K
  try dsimp only [Act.put]
  refine wpAnyH_done (by kernel_rfl) ?_ _
  refine NoPanic.normal ?_
  go_simp
  go_wp2
  go_ret
  exact ⟨f, rfl, NL.out, F0, FZ, FS.out⟩
end Go.Proofs.YtffggmjhaaehlaaGreatDoor
