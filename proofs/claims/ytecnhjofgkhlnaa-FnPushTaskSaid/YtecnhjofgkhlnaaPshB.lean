/- slices.BinarySearchFunc over byId in a queue of tasks, walked. Conditions: the tasks can be read; their numbers ascend; at most 10. -/
import Derived.Test.YtecnhjofgkhlnaaPshM
import Derived.Deep.RegionHeld3
namespace Go.Proofs.Ytecnhjofgkhlnaa
open Go.RowKit

/-- In the midst of the search: before a the numbers are smaller, from b on they are not. -/
def Srch (zs : List Int) (n : Nat) (d : Int) (a b : Nat) : Prop := a ≤ b ∧ b ≤ n ∧ (∀ k, k < a → tid zs k < d) ∧ ∀ k, b ≤ k → k < n → d ≤ tid zs k
set_option maxRecDepth 100000 in
set_option maxHeartbeats 1000000 in
theorem BinTask_any (A : Option Addr) (n c : Nat) (zs : List Int) (d r e : Int) (hv : vtk n zs = true) (w : World) (hx : Sts 3 w A n zs) :
    Calls Try.prog 51 #[.slice A n c, .agg #[.int .i64 d, .int .i64 r, .int .i64 e], .func (.func 47) #[] #[]] w fun e w' => e = .returned (.tuple #[.int .i64 (pl zs d n : Nat), .bool (fnd zs n d)]) ∧ New w w' := by
  have n10 := (vtk_at hv).1
  have ni : (n : Int) ≤ 10 := by omega
  have n0 : (0 : Int) ≤ (n : Int) := by omega
  have HX := Lib.hid hx
  have PLI := Lib.hid (pl_of (d := d) hv)
  have MONO := Lib.hid (fun k j (hk : k < n) (hj : j < k) => ((vtk_at hv).2 k hk).2 j hj)
  have BX := Lib.hid (Row.oneTask w d r e 43)
  have NX := Lib.hid ((New.refl w).alloc (.cells #[.int .i64 d, .int .i64 r, .int .i64 e] 43))
  clear hx hv
  go_enter Try.func51, Try.ntmps51
  go_wp2
  go_loopw [9, 10] (fun i j wr => ∃ a b : Nat, i = .int .i64 a ∧ j = .int .i64 b ∧ Hid (Srch zs n d a b) ∧ Hid (New (w.alloc (.cells #[.int .i64 d, .int .i64 r, .int .i64 e] 43)) wr)) (fun i j _ => (intOf j).toNat - (intOf i).toNat)
  case atStart => exact ⟨0, n, rfl, rfl, Lib.hid ⟨Nat.zero_le _, Nat.le_refl _, fun k h => absurd h (Nat.not_lt_zero k), fun k h1 h2 => by omega⟩, Lib.hid (New.refl _)⟩
  case round =>
    obtain ⟨a, b, rfl, rfl, HS, HN⟩ := hrel
    have ab := HS.out.1
    have bn := HS.out.2.1
    have a0 : (0 : Int) ≤ (a : Int) := by omega
    have b0 : (0 : Int) ≤ (b : Int) := by omega
    have HBX := Lib.hid (fun X (hX : New wr X) => (⟨(BX.out.new (HN.out.trans hX)).c 0 (by simp), (BX.out.new (HN.out.trans hX)).c 1 (by simp), (BX.out.new (HN.out.trans hX)).c 2 (by simp)⟩ : X.cell? ⟨w.heap.size, 0, none⟩ = some (.int .i64 d) ∧ X.cell? ⟨w.heap.size, 1, none⟩ = some (.int .i64 r) ∧ X.cell? ⟨w.heap.size, 2, none⟩ = some (.int .i64 e)))
    have ND := Lib.hid (New.refl wr).drew
    by_cases hlt : a < b
    · obtain ⟨h, hh⟩ : ∃ h : Nat, (a + b) / 2 = h := ⟨_, rfl⟩
      have h1 : a ≤ h := by omega
      have h2 : h < b := by omega
      have l1 : (a : Int) < (b : Int) := by omega
      have h0 : (0 : Int) ≤ (h : Int) := by omega
      have hn : (h : Int) < (n : Int) := by omega
      obtain ⟨g, off, rfl, hb, hc⟩ := (HX.out.new NX.out).at_ (by omega)
      have HC := Lib.hid (fun X (hX : New wr X) => (⟨((HN.out.trans hX).cells g _ hb).trans (hc (h * 3) (by omega)), ((HN.out.trans hX).cells g _ hb).trans (hc (h * 3 + 1) (by omega)), ((HN.out.trans hX).cells g _ hb).trans (hc (h * 3 + 2) (by omega))⟩ : X.cell? ⟨g, off + h * 3, none⟩ = some (.int .i64 (tid zs h)) ∧ X.cell? ⟨g, off + h * 3 + 1, none⟩ = some (.int .i64 (trk zs h)) ∧ X.cell? ⟨g, off + h * 3 + 2, none⟩ = some (.int .i64 (tag zs h))))
      have CB := Lib.hid (fun X => byId_any (tid zs h) (trk zs h) (tag zs h) d r e X)
      have LESS : Hid (tid zs h < d → Srch zs n d (h + 1) b) := Lib.hid (fun hd => ⟨by omega, bn, fun k hk => by
        by_cases ek : k = h
        · subst ek; exact hd
        · have := MONO.out h k (by omega) (by omega); omega, HS.out.2.2.2⟩)
      have MORE : Hid (¬ tid zs h < d → Srch zs n d a h) := Lib.hid (fun hd => ⟨h1, by omega, HS.out.2.2.1, fun k hk hk2 => by
        by_cases ek : k = h
        · subst ek; omega
        · have := MONO.out k h hk2 (by omega); omega⟩)
      clear hc hb
      go_wp2
      rw [show ((a : Int) + (b : Int)) / 2 = (h : Int) by omega]
      by_cases hd : tid zs h < d
      · have SR := Lib.hid (LESS.out hd)
        have ci : cmpI (tid zs h) d = -1 := if_pos hd
        generalize tid zs h = x0 at *
        generalize trk zs h = x1 at *
        generalize tag zs h = x2 at *
        clear hd
        refine wp_region_noPanic ?_
        refine wp_region_held_drew (S := fun w' => (w'.cell? ⟨g, off + h * 3, none⟩ = some (.int .i64 x0) ∧ w'.cell? ⟨g, off + h * 3 + 1, none⟩ = some (.int .i64 x1) ∧ w'.cell? ⟨g, off + h * 3 + 2, none⟩ = some (.int .i64 x2)) ∧ w'.cell? ⟨w.heap.size, 0, none⟩ = some (.int .i64 d) ∧ w'.cell? ⟨w.heap.size, 1, none⟩ = some (.int .i64 r) ∧ w'.cell? ⟨w.heap.size, 2, none⟩ = some (.int .i64 e)) (by kernel_rfl) (⟨HC.out _ ND.out, HBX.out _ ND.out⟩) (fun hHeld => ?_)
        generalize wr.drew = Vd at ND hHeld ⊢
        refine wpAnyH_take (i := 0) (oi := _) (v := ?_) rfl (by kernel_rfl) (by kernel_rfl) (by kernel_rfl) (fun _ _ _ h => h) (Or.inl ⟨by kernel_rfl, ?_⟩) (by assumption) ?_
        rotate_left; (intro w' hSw; (try dsimp only at hSw); go_split_ands; go_simp; (try with_reducible rfl))
        try dsimp only [Act.put]
        refine wpAnyH_take (i := 1) (oi := _) (v := ?_) rfl (by kernel_rfl) (by kernel_rfl) (by kernel_rfl) (fun _ _ _ h => h) (Or.inl ⟨by kernel_rfl, ?_⟩) (by assumption) ?_
        rotate_left; (intro w' hSw; (try dsimp only at hSw); go_split_ands; go_simp; (try with_reducible rfl))
        try dsimp only [Act.put]
        refine wpAnyH_take (i := 2) (oi := _) (v := ?_) rfl (by kernel_rfl) (by kernel_rfl) (by kernel_rfl) (fun _ _ _ h => h) (Or.inl ⟨by kernel_rfl, ?_⟩) (by assumption) ?_
        rotate_left; (intro w' hSw; (try dsimp only at hSw); go_split_ands; go_simp; (try with_reducible rfl))
        try dsimp only [Act.put]
        refine wpAnyH_take (i := 3) (oi := _) (v := ?_) rfl (by kernel_rfl) (by kernel_rfl) (by kernel_rfl) (fun _ _ _ h => h) (Or.inl ⟨by kernel_rfl, ?_⟩) (by assumption) ?_
        rotate_left; (intro w' hSw; (try dsimp only at hSw); go_split_ands; go_simp; (try with_reducible rfl))
        try dsimp only [Act.put]
        refine wpAnyH_take (i := 4) (oi := _) (v := ?_) rfl (by kernel_rfl) (by kernel_rfl) (by kernel_rfl) (fun _ _ _ h => h) (Or.inl ⟨by kernel_rfl, ?_⟩) (by assumption) ?_
        rotate_left; (intro w' hSw; (try dsimp only at hSw); go_split_ands; go_simp; (try with_reducible rfl))
        try dsimp only [Act.put]
        refine wpAnyH_take (i := 5) (oi := _) (v := ?_) rfl (by kernel_rfl) (by kernel_rfl) (by kernel_rfl) (fun _ _ _ h => h) (Or.inl ⟨by kernel_rfl, ?_⟩) (by assumption) ?_
        rotate_left; (intro w' hSw; (try dsimp only at hSw); go_split_ands; go_simp; (try with_reducible rfl))
        try dsimp only [Act.put]
        refine wpAnyH_ready (rs := [6]) (by kernel_rfl) (by simp) ?_
        refine AllReadyH.cons (o := _) rfl (fun K hK => ?_) AllReadyH.nil
        go_simp
        go_at_call 47
        refine (CB.out _).mono ?_
        rintro e' W ⟨rfl, NW⟩
        rw [ci]
        replace NW := Lib.hid (ND.out.trans NW)
        go_wp2_with fail
        refine hK.out _ _ (⟨HC.out _ NW.out, HBX.out _ NW.out⟩) (fun hH6 => ?_)
        clear hK K
        try dsimp only [Act.put]
        refine wpAnyH_take (i := 7) (oi := _) (v := ?_) rfl (by kernel_rfl) (by kernel_rfl) (by kernel_rfl) (fun _ _ _ h => h) (Or.inl ⟨by kernel_rfl, ?_⟩) (by assumption) ?_
        rotate_left; (intro w' hSw; (try dsimp only at hSw); go_split_ands; go_simp; (try with_reducible rfl))
        try dsimp only [Act.put]
        refine wpAnyH_done (by kernel_rfl) ?_ _
        refine NoPanic.normal ?_
        go_simp
        go_wp2
        go_roundw
        case rel => exact ⟨h + 1, b, by go_num, rfl, SR, Lib.hid (HN.out.trans NW.out)⟩
        case measure => simp [intOf]; omega
      · have SR := Lib.hid (MORE.out (by omega))
        have ci : ¬ cmpI (tid zs h) d < 0 := by unfold cmpI; rw [if_neg hd]; split <;> omega
        generalize tid zs h = x0 at *
        generalize trk zs h = x1 at *
        generalize tag zs h = x2 at *
        obtain ⟨q, hq⟩ : ∃ q, cmpI x0 d = q := ⟨_, rfl⟩
        rw [hq] at ci
        clear hd
        refine wp_region_noPanic ?_
        refine wp_region_held_drew (S := fun w' => (w'.cell? ⟨g, off + h * 3, none⟩ = some (.int .i64 x0) ∧ w'.cell? ⟨g, off + h * 3 + 1, none⟩ = some (.int .i64 x1) ∧ w'.cell? ⟨g, off + h * 3 + 2, none⟩ = some (.int .i64 x2)) ∧ w'.cell? ⟨w.heap.size, 0, none⟩ = some (.int .i64 d) ∧ w'.cell? ⟨w.heap.size, 1, none⟩ = some (.int .i64 r) ∧ w'.cell? ⟨w.heap.size, 2, none⟩ = some (.int .i64 e)) (by kernel_rfl) (⟨HC.out _ ND.out, HBX.out _ ND.out⟩) (fun hHeld => ?_)
        generalize wr.drew = Vd at ND hHeld ⊢
        refine wpAnyH_take (i := 0) (oi := _) (v := ?_) rfl (by kernel_rfl) (by kernel_rfl) (by kernel_rfl) (fun _ _ _ h => h) (Or.inl ⟨by kernel_rfl, ?_⟩) (by assumption) ?_
        rotate_left; (intro w' hSw; (try dsimp only at hSw); go_split_ands; go_simp; (try with_reducible rfl))
        try dsimp only [Act.put]
        refine wpAnyH_take (i := 1) (oi := _) (v := ?_) rfl (by kernel_rfl) (by kernel_rfl) (by kernel_rfl) (fun _ _ _ h => h) (Or.inl ⟨by kernel_rfl, ?_⟩) (by assumption) ?_
        rotate_left; (intro w' hSw; (try dsimp only at hSw); go_split_ands; go_simp; (try with_reducible rfl))
        try dsimp only [Act.put]
        refine wpAnyH_take (i := 2) (oi := _) (v := ?_) rfl (by kernel_rfl) (by kernel_rfl) (by kernel_rfl) (fun _ _ _ h => h) (Or.inl ⟨by kernel_rfl, ?_⟩) (by assumption) ?_
        rotate_left; (intro w' hSw; (try dsimp only at hSw); go_split_ands; go_simp; (try with_reducible rfl))
        try dsimp only [Act.put]
        refine wpAnyH_take (i := 3) (oi := _) (v := ?_) rfl (by kernel_rfl) (by kernel_rfl) (by kernel_rfl) (fun _ _ _ h => h) (Or.inl ⟨by kernel_rfl, ?_⟩) (by assumption) ?_
        rotate_left; (intro w' hSw; (try dsimp only at hSw); go_split_ands; go_simp; (try with_reducible rfl))
        try dsimp only [Act.put]
        refine wpAnyH_take (i := 4) (oi := _) (v := ?_) rfl (by kernel_rfl) (by kernel_rfl) (by kernel_rfl) (fun _ _ _ h => h) (Or.inl ⟨by kernel_rfl, ?_⟩) (by assumption) ?_
        rotate_left; (intro w' hSw; (try dsimp only at hSw); go_split_ands; go_simp; (try with_reducible rfl))
        try dsimp only [Act.put]
        refine wpAnyH_take (i := 5) (oi := _) (v := ?_) rfl (by kernel_rfl) (by kernel_rfl) (by kernel_rfl) (fun _ _ _ h => h) (Or.inl ⟨by kernel_rfl, ?_⟩) (by assumption) ?_
        rotate_left; (intro w' hSw; (try dsimp only at hSw); go_split_ands; go_simp; (try with_reducible rfl))
        try dsimp only [Act.put]
        refine wpAnyH_ready (rs := [6]) (by kernel_rfl) (by simp) ?_
        refine AllReadyH.cons (o := _) rfl (fun K hK => ?_) AllReadyH.nil
        go_simp
        go_at_call 47
        refine (CB.out _).mono ?_
        rintro e' W ⟨rfl, NW⟩
        rw [hq]
        replace NW := Lib.hid (ND.out.trans NW)
        go_wp2_with fail
        refine hK.out _ _ (⟨HC.out _ NW.out, HBX.out _ NW.out⟩) (fun hH6 => ?_)
        clear hK K
        try dsimp only [Act.put]
        refine wpAnyH_take (i := 7) (oi := _) (v := ?_) rfl (by kernel_rfl) (by kernel_rfl) (by kernel_rfl) (fun _ _ _ h => h) (Or.inl ⟨by kernel_rfl, ?_⟩) (by assumption) ?_
        rotate_left; (intro w' hSw; (try dsimp only at hSw); go_split_ands; go_simp; (try with_reducible rfl))
        try dsimp only [Act.put]
        refine wpAnyH_done (by kernel_rfl) ?_ _
        refine NoPanic.normal ?_
        go_simp
        go_wp2
        go_roundw
        case rel => exact ⟨a, h, rfl, rfl, SR, Lib.hid (HN.out.trans NW.out)⟩
        case measure => simp [intOf]; omega
    · obtain rfl : a = b := by omega
      have EP : Hid (pl zs d n = a) := Lib.hid (isPl_eq PLI.out ⟨bn, HS.out.2.2.1, HS.out.2.2.2⟩)
      have l1 : ¬ (a : Int) < (a : Int) := by omega
      by_cases han : a < n
      · have an : (a : Int) < (n : Int) := by omega
        obtain ⟨g, off, rfl, hb, hc⟩ := (HX.out.new NX.out).at_ (by omega)
        have HC := Lib.hid (fun X (hX : New wr X) => (⟨((HN.out.trans hX).cells g _ hb).trans (hc (a * 3) (by omega)), ((HN.out.trans hX).cells g _ hb).trans (hc (a * 3 + 1) (by omega)), ((HN.out.trans hX).cells g _ hb).trans (hc (a * 3 + 2) (by omega))⟩ : X.cell? ⟨g, off + a * 3, none⟩ = some (.int .i64 (tid zs a)) ∧ X.cell? ⟨g, off + a * 3 + 1, none⟩ = some (.int .i64 (trk zs a)) ∧ X.cell? ⟨g, off + a * 3 + 2, none⟩ = some (.int .i64 (tag zs a))))
        have CB := Lib.hid (fun X => byId_any (tid zs a) (trk zs a) (tag zs a) d r e X)
        have FN : Hid (fnd zs n d = decide (tid zs a = d)) := Lib.hid (by unfold fnd; rw [EP.out]; simp [han])
        have CE : Hid ((cmpI (tid zs a) d == 0) = decide (tid zs a = d)) := Lib.hid (by
          have h : (cmpI (tid zs a) d = 0) ↔ (tid zs a = d) := by unfold cmpI; repeat' split
                                                                  all_goals omega
          rw [← decide_eq_decide.2 h]
          rfl)
        clear hc hb
        generalize tid zs a = x0 at *
        generalize trk zs a = x1 at *
        generalize tag zs a = x2 at *
        obtain ⟨q, hq⟩ : ∃ q, cmpI x0 d = q := ⟨_, rfl⟩
        rw [hq] at CE
        go_wp2
        refine wp_region_noPanic ?_
        refine wp_region_held_drew (S := fun w' => (w'.cell? ⟨g, off + a * 3, none⟩ = some (.int .i64 x0) ∧ w'.cell? ⟨g, off + a * 3 + 1, none⟩ = some (.int .i64 x1) ∧ w'.cell? ⟨g, off + a * 3 + 2, none⟩ = some (.int .i64 x2)) ∧ w'.cell? ⟨w.heap.size, 0, none⟩ = some (.int .i64 d) ∧ w'.cell? ⟨w.heap.size, 1, none⟩ = some (.int .i64 r) ∧ w'.cell? ⟨w.heap.size, 2, none⟩ = some (.int .i64 e)) (by kernel_rfl) (⟨HC.out _ ND.out, HBX.out _ ND.out⟩) (fun hHeld => ?_)
        generalize wr.drew = Vd at ND hHeld ⊢
        refine wpAnyH_take (i := 0) (oi := _) (v := ?_) rfl (by kernel_rfl) (by kernel_rfl) (by kernel_rfl) (fun _ _ _ h => h) (Or.inl ⟨by kernel_rfl, ?_⟩) (by assumption) ?_
        rotate_left; (intro w' hSw; (try dsimp only at hSw); go_split_ands; go_simp; (try with_reducible rfl))
        try dsimp only [Act.put]
        refine wpAnyH_take (i := 1) (oi := _) (v := ?_) rfl (by kernel_rfl) (by kernel_rfl) (by kernel_rfl) (fun _ _ _ h => h) (Or.inl ⟨by kernel_rfl, ?_⟩) (by assumption) ?_
        rotate_left; (intro w' hSw; (try dsimp only at hSw); go_split_ands; go_simp; (try with_reducible rfl))
        try dsimp only [Act.put]
        refine wpAnyH_take (i := 2) (oi := _) (v := ?_) rfl (by kernel_rfl) (by kernel_rfl) (by kernel_rfl) (fun _ _ _ h => h) (Or.inl ⟨by kernel_rfl, ?_⟩) (by assumption) ?_
        rotate_left; (intro w' hSw; (try dsimp only at hSw); go_split_ands; go_simp; (try with_reducible rfl))
        try dsimp only [Act.put]
        refine wpAnyH_take (i := 3) (oi := _) (v := ?_) rfl (by kernel_rfl) (by kernel_rfl) (by kernel_rfl) (fun _ _ _ h => h) (Or.inl ⟨by kernel_rfl, ?_⟩) (by assumption) ?_
        rotate_left; (intro w' hSw; (try dsimp only at hSw); go_split_ands; go_simp; (try with_reducible rfl))
        try dsimp only [Act.put]
        refine wpAnyH_take (i := 4) (oi := _) (v := ?_) rfl (by kernel_rfl) (by kernel_rfl) (by kernel_rfl) (fun _ _ _ h => h) (Or.inl ⟨by kernel_rfl, ?_⟩) (by assumption) ?_
        rotate_left; (intro w' hSw; (try dsimp only at hSw); go_split_ands; go_simp; (try with_reducible rfl))
        try dsimp only [Act.put]
        refine wpAnyH_take (i := 5) (oi := _) (v := ?_) rfl (by kernel_rfl) (by kernel_rfl) (by kernel_rfl) (fun _ _ _ h => h) (Or.inl ⟨by kernel_rfl, ?_⟩) (by assumption) ?_
        rotate_left; (intro w' hSw; (try dsimp only at hSw); go_split_ands; go_simp; (try with_reducible rfl))
        try dsimp only [Act.put]
        refine wpAnyH_take (i := 6) (oi := _) (v := ?_) rfl (by kernel_rfl) (by kernel_rfl) (by kernel_rfl) (fun _ _ _ h => h) (Or.inl ⟨by kernel_rfl, ?_⟩) (by assumption) ?_
        rotate_left; (intro w' hSw; (try dsimp only at hSw); go_split_ands; go_simp; (try with_reducible rfl))
        try dsimp only [Act.put]
        refine wpAnyH_take (i := 7) (oi := _) (v := ?_) rfl (by kernel_rfl) (by kernel_rfl) (by kernel_rfl) (fun _ _ _ h => h) (Or.inl ⟨by kernel_rfl, ?_⟩) (by assumption) ?_
        rotate_left; (intro w' hSw; (try dsimp only at hSw); go_split_ands; go_simp; (try with_reducible rfl))
        try dsimp only [Act.put]
        refine wpAnyH_take (i := 8) (oi := _) (v := ?_) rfl (by kernel_rfl) (by kernel_rfl) (by kernel_rfl) (fun _ _ _ h => h) (Or.inl ⟨by kernel_rfl, ?_⟩) (by assumption) ?_
        rotate_left; (intro w' hSw; (try dsimp only at hSw); go_split_ands; go_simp; (try with_reducible rfl))
        try dsimp only [Act.put]
        refine wpAnyH_take (i := 9) (oi := _) (v := ?_) rfl (by kernel_rfl) (by kernel_rfl) (by kernel_rfl) (fun _ _ _ h => h) (Or.inl ⟨by kernel_rfl, ?_⟩) (by assumption) ?_
        rotate_left; (intro w' hSw; (try dsimp only at hSw); go_split_ands; go_simp; (try with_reducible rfl))
        try dsimp only [Act.put]
        refine wpAnyH_take (i := 10) (oi := _) (v := ?_) rfl (by kernel_rfl) (by kernel_rfl) (by kernel_rfl) (fun _ _ _ h => h) (Or.inl ⟨by kernel_rfl, ?_⟩) (by assumption) ?_
        rotate_left; (intro w' hSw; (try dsimp only at hSw); go_split_ands; go_simp; (try with_reducible rfl))
        try dsimp only [Act.put]
        refine wpAnyH_ready (rs := [11]) (by kernel_rfl) (by simp) ?_
        refine AllReadyH.cons (o := _) rfl (fun K hK => ?_) AllReadyH.nil
        go_simp
        go_at_call 47
        refine (CB.out _).mono ?_
        rintro e' W ⟨rfl, NW⟩
        rw [hq]
        replace NW := Lib.hid (ND.out.trans NW)
        go_wp2_with fail
        refine hK.out _ _ (⟨HC.out _ NW.out, HBX.out _ NW.out⟩) (fun hH11 => ?_)
        clear hK K
        try dsimp only [Act.put]
        refine wpAnyH_take (i := 12) (oi := _) (v := ?_) rfl (by kernel_rfl) (by kernel_rfl) (by kernel_rfl) (fun _ _ _ h => h) (Or.inl ⟨by kernel_rfl, ?_⟩) (by assumption) ?_
        rotate_left; (intro w' hSw; (try dsimp only at hSw); go_split_ands; go_simp; (try with_reducible rfl))
        try dsimp only [Act.put]
        refine wpAnyH_take (i := 13) (oi := _) (v := ?_) rfl (by kernel_rfl) (by kernel_rfl) (by kernel_rfl) (fun _ _ _ h => h) (Or.inl ⟨by kernel_rfl, ?_⟩) (by assumption) ?_
        rotate_left; (intro w' hSw; (try dsimp only at hSw); go_split_ands; go_simp; (try with_reducible rfl))
        try dsimp only [Act.put]
        refine wpAnyH_ready (rs := [14]) (by kernel_rfl) (by simp) ?_
        refine AllReadyH.cons (o := _) rfl (fun K hK => ?_) AllReadyH.nil
        go_simp
        refine hK.out _ _ (⟨HC.out _ NW.out, HBX.out _ NW.out⟩) (fun hH14 => ?_)
        clear hK K
        try dsimp only [Act.put]
        refine wpAnyH_ready (rs := [15]) (by kernel_rfl) (by simp) ?_
        refine AllReadyH.cons (o := _) rfl (fun K hK => ?_) AllReadyH.nil
        go_simp
        refine hK.out _ _ (⟨HC.out _ NW.out, HBX.out _ NW.out⟩) (fun hH15 => ?_)
        clear hK K
        try dsimp only [Act.put]
        refine wpAnyH_done (by kernel_rfl) ?_ _
        refine NoPanic.normal ?_
        go_simp
        go_wp2
        go_ret2
        rw [EP.out, FN.out, ← CE.out]
        exact ⟨by first | rfl | (go_simp; rfl) | go_simp, NX.out.trans (HN.out.trans NW.out)⟩
      · have an : ¬ (a : Int) < (n : Int) := by omega
        have FN : Hid (fnd zs n d = false) := Lib.hid (by unfold fnd; rw [EP.out]; simp [han])
        go_wp2
        refine wp_region_noPanic ?_
        refine wp_region_held_drew (S := fun _ => True) (by kernel_rfl) (trivial) (fun hHeld => ?_)
        generalize wr.drew = Vd at ND hHeld ⊢
        refine wpAnyH_take (i := 0) (oi := _) (v := ?_) rfl (by kernel_rfl) (by kernel_rfl) (by kernel_rfl) (fun _ _ _ h => h) (Or.inl ⟨by kernel_rfl, ?_⟩) (by assumption) ?_
        rotate_left; (intro w' hSw; (try dsimp only at hSw); go_split_ands; go_simp; (try with_reducible rfl))
        try dsimp only [Act.put]
        refine wpAnyH_take (i := 1) (oi := _) (v := ?_) rfl (by kernel_rfl) (by kernel_rfl) (by kernel_rfl) (fun _ _ _ h => h) (Or.inl ⟨by kernel_rfl, ?_⟩) (by assumption) ?_
        rotate_left; (intro w' hSw; (try dsimp only at hSw); go_split_ands; go_simp; (try with_reducible rfl))
        try dsimp only [Act.put]
        refine wpAnyH_take (i := 2) (oi := _) (v := ?_) rfl (by kernel_rfl) (by kernel_rfl) (by kernel_rfl) (fun _ _ _ h => h) (Or.inl ⟨by kernel_rfl, ?_⟩) (by assumption) ?_
        rotate_left; (intro w' hSw; (try dsimp only at hSw); go_split_ands; go_simp; (try with_reducible rfl))
        try dsimp only [Act.put]
        refine wpAnyH_take (i := 3) (oi := _) (v := ?_) rfl (by kernel_rfl) (by kernel_rfl) (by kernel_rfl) (fun _ _ _ h => h) (Or.inl ⟨by kernel_rfl, ?_⟩) (by assumption) ?_
        rotate_left; (intro w' hSw; (try dsimp only at hSw); go_split_ands; go_simp; (try with_reducible rfl))
        try dsimp only [Act.put]
        refine wpAnyH_take (i := 4) (oi := _) (v := ?_) rfl (by kernel_rfl) (by kernel_rfl) (by kernel_rfl) (fun _ _ _ h => h) (Or.inl ⟨by kernel_rfl, ?_⟩) (by assumption) ?_
        rotate_left; (intro w' hSw; (try dsimp only at hSw); go_split_ands; go_simp; (try with_reducible rfl))
        try dsimp only [Act.put]
        refine wpAnyH_take (i := 5) (oi := _) (v := undef) rfl (by kernel_rfl) (by kernel_rfl) (by kernel_rfl) (fun _ _ _ h => h) (Or.inr ⟨by kernel_rfl, rfl⟩) (by assumption) ?_
        try dsimp only [Act.put]
        refine wpAnyH_take (i := 6) (oi := _) (v := undef) rfl (by kernel_rfl) (by kernel_rfl) (by kernel_rfl) (fun _ _ _ h => h) (Or.inr ⟨by kernel_rfl, rfl⟩) (by assumption) ?_
        try dsimp only [Act.put]
        refine wpAnyH_take (i := 7) (oi := _) (v := undef) rfl (by kernel_rfl) (by kernel_rfl) (by kernel_rfl) (fun _ _ _ h => h) (Or.inr ⟨by kernel_rfl, rfl⟩) (by assumption) ?_
        try dsimp only [Act.put]
        refine wpAnyH_take (i := 8) (oi := _) (v := undef) rfl (by kernel_rfl) (by kernel_rfl) (by kernel_rfl) (fun _ _ _ h => h) (Or.inr ⟨by kernel_rfl, rfl⟩) (by assumption) ?_
        try dsimp only [Act.put]
        refine wpAnyH_take (i := 9) (oi := _) (v := undef) rfl (by kernel_rfl) (by kernel_rfl) (by kernel_rfl) (fun _ _ _ h => h) (Or.inr ⟨by kernel_rfl, rfl⟩) (by assumption) ?_
        try dsimp only [Act.put]
        refine wpAnyH_take (i := 10) (oi := _) (v := undef) rfl (by kernel_rfl) (by kernel_rfl) (by kernel_rfl) (fun _ _ _ h => h) (Or.inr ⟨by kernel_rfl, rfl⟩) (by assumption) ?_
        try dsimp only [Act.put]
        refine wpAnyH_take (i := 11) (oi := _) (v := undef) rfl (by kernel_rfl) (by kernel_rfl) (by kernel_rfl) (fun _ _ _ h => h) (Or.inr ⟨by kernel_rfl, rfl⟩) (by assumption) ?_
        try dsimp only [Act.put]
        refine wpAnyH_take (i := 12) (oi := _) (v := undef) rfl (by kernel_rfl) (by kernel_rfl) (by kernel_rfl) (fun _ _ _ h => h) (Or.inr ⟨by kernel_rfl, rfl⟩) (by assumption) ?_
        try dsimp only [Act.put]
        refine wpAnyH_take (i := 13) (oi := _) (v := ?_) rfl (by kernel_rfl) (by kernel_rfl) (by kernel_rfl) (fun _ _ _ h => h) (Or.inl ⟨by kernel_rfl, ?_⟩) (by assumption) ?_
        rotate_left; (intro w' hSw; (try dsimp only at hSw); go_split_ands; go_simp; (try with_reducible rfl))
        try dsimp only [Act.put]
        refine wpAnyH_ready (rs := [14]) (by kernel_rfl) (by simp) ?_
        refine AllReadyH.cons (o := _) rfl (fun K hK => ?_) AllReadyH.nil
        go_simp
        refine hK.out _ _ (trivial) (fun hH14 => ?_)
        clear hK K
        try dsimp only [Act.put]
        refine wpAnyH_ready (rs := [15]) (by kernel_rfl) (by simp) ?_
        refine AllReadyH.cons (o := _) rfl (fun K hK => ?_) AllReadyH.nil
        go_simp
        refine hK.out _ _ (trivial) (fun hH15 => ?_)
        clear hK K
        try dsimp only [Act.put]
        refine wpAnyH_done (by kernel_rfl) ?_ _
        refine NoPanic.normal ?_
        go_simp
        go_wp2
        go_ret2
        rw [EP.out, FN.out]
        exact ⟨by first | rfl | (go_simp; rfl) | go_simp, NX.out.trans (HN.out.trans ND.out)⟩
end Go.Proofs.Ytecnhjofgkhlnaa
