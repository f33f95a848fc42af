/- The reference's text of a box. Condition: the box is valid. -/
import Derived.Test.YtffggmjhaaehlaaGreatDoorTxtM
namespace Go.Proofs.YtffggmjhaaehlaaGreatDoor
open Go.RowKit

set_option maxRecDepth 100000 in
set_option maxHeartbeats 2000000 in
theorem sboxText_any (k : Nat) (hk : k ≤ 3) (p wd ht a0 a1 a2 a3 a4 : Int) (hw : 0 ≤ wd ∧ wd ≤ 100) (hh : 0 ≤ ht ∧ ht ≤ 100) (hv : ∀ i, i < 5 → 0 ≤ [a0, a1, a2, a3, a4].getD i 0 ∧ [a0, a1, a2, a3, a4].getD i 0 ≤ 100) (w : World) :
    Calls Tryz.prog 32 #[.agg #[.int .i64 p, .int .i64 (k : Int), .int .i64 wd, .int .i64 ht, .int .i64 a0, .int .i64 a1, .int .i64 a2, .int .i64 a3, .int .i64 a4]] w fun e w' => e = .returned (str (boxTx k wd ht [a0, a1, a2, a3, a4])) ∧ New w w' := by
  obtain ⟨u, rfl, hu⟩ := nat_toNat hw.1
  obtain ⟨v, rfl, hv'⟩ := nat_toNat hh.1
  have DW := Lib.hid (fun W => decimalN_any u (by omega) W)
  have DH := Lib.hid (fun W => decimalN_any v (by omega) W)
  have LW := dd_len hw
  have LH := dd_len hh
  have HT := Lib.hid (fun k => hdT_len hw hh k)
  rw [hu] at LW
  rw [hv'] at LH
  have SL := Lib.hid (fun j (hj : j ≤ 5) => sws_len hv j hj)
  have HVS := Lib.hid hv
  obtain ⟨vs, hvs⟩ : ∃ vs, [a0, a1, a2, a3, a4] = vs := ⟨_, rfl⟩
  have EVS := Lib.hid hvs
  rcases (show k = 0 ∨ k = 1 ∨ k = 2 ∨ k = 3 by omega) with rfl | rfl | rfl | rfl
  · have EH : Hid (hdT 0 (u : Int) (v : Int) = ((((kn 0 ++ [32]) ++ Lib.decDigits u) ++ [32]) ++ Lib.decDigits v)) := Lib.hid rfl
    clear hv hw hh hvs
    go_enter Tryz.func32, Tryz.ntmps32
    go_wp2
    have N0 : New w ((w.alloc (.cells #[.int .i64 p, .int .i64 0, .int .i64 (u : Int), .int .i64 (v : Int), .int .i64 a0, .int .i64 a1, .int .i64 a2, .int .i64 a3, .int .i64 a4] 38)).alloc (.cells #[.string { data := #[108, 101, 97, 102] }, .string { data := #[98, 108, 111, 99, 107] }, .string { data := #[114, 111, 119] }, .string { data := #[99, 111, 108, 117, 109, 110] }] 9)) := by (repeat (first | exact New.refl _ | assumption | refine New.alloc ?_ _ | refine New.drew ?_ | refine New.drewN ?_ _ | refine New.setCell ?_ (by first | omega | (simp; omega) | (simp; done)) _ | refine New.trans ?_ (by assumption)))
    have Z2 : w.heap.size < (((w.alloc (.cells #[.int .i64 p, .int .i64 0, .int .i64 (u : Int), .int .i64 (v : Int), .int .i64 a0, .int .i64 a1, .int .i64 a2, .int .i64 a3, .int .i64 a4] 38)).alloc (.cells #[.string { data := #[108, 101, 97, 102] }, .string { data := #[98, 108, 111, 99, 107] }, .string { data := #[114, 111, 119] }, .string { data := #[99, 111, 108, 117, 109, 110] }] 9))).heap.size := by simp; omega
    have SX : (fun w' => w'.cell? ⟨w.heap.size, 2, none⟩ = some (.int .i64 (u : Int)) ∧ w'.cell? ⟨w.heap.size, 3, none⟩ = some (.int .i64 (v : Int)) ∧ w'.cell? ⟨w.heap.size, 4, none⟩ = some (.int .i64 a0) ∧ w'.cell? ⟨w.heap.size, 5, none⟩ = some (.int .i64 a1) ∧ w'.cell? ⟨w.heap.size, 6, none⟩ = some (.int .i64 a2) ∧ w'.cell? ⟨w.heap.size, 7, none⟩ = some (.int .i64 a3) ∧ w'.cell? ⟨w.heap.size, 8, none⟩ = some (.int .i64 a4)) ((w.alloc (.cells #[.int .i64 p, .int .i64 0, .int .i64 (u : Int), .int .i64 (v : Int), .int .i64 a0, .int .i64 a1, .int .i64 a2, .int .i64 a3, .int .i64 a4] 38)).alloc (.cells #[.string { data := #[108, 101, 97, 102] }, .string { data := #[98, 108, 111, 99, 107] }, .string { data := #[114, 111, 119] }, .string { data := #[99, 111, 108, 117, 109, 110] }] 9)) := by refine ⟨?_, ?_, ?_, ?_, ?_, ?_, ?_⟩ <;> simp [go_sem]
    generalize hW2 : ((w.alloc (.cells #[.int .i64 p, .int .i64 0, .int .i64 (u : Int), .int .i64 (v : Int), .int .i64 a0, .int .i64 a1, .int .i64 a2, .int .i64 a3, .int .i64 a4] 38)).alloc (.cells #[.string { data := #[108, 101, 97, 102] }, .string { data := #[98, 108, 111, 99, 107] }, .string { data := #[114, 111, 119] }, .string { data := #[99, 111, 108, 117, 109, 110] }] 9)) = W2 at *
    replace hW2 := Lib.hid hW2
    have SX := Lib.hid (fun X (hX : New W2 X) => (show (fun w' => w'.cell? ⟨w.heap.size, 2, none⟩ = some (.int .i64 (u : Int)) ∧ w'.cell? ⟨w.heap.size, 3, none⟩ = some (.int .i64 (v : Int)) ∧ w'.cell? ⟨w.heap.size, 4, none⟩ = some (.int .i64 a0) ∧ w'.cell? ⟨w.heap.size, 5, none⟩ = some (.int .i64 a1) ∧ w'.cell? ⟨w.heap.size, 6, none⟩ = some (.int .i64 a2) ∧ w'.cell? ⟨w.heap.size, 7, none⟩ = some (.int .i64 a3) ∧ w'.cell? ⟨w.heap.size, 8, none⟩ = some (.int .i64 a4)) X from ⟨(hX.cells _ 2 Z2).trans SX.1, (hX.cells _ 3 Z2).trans SX.2.1, (hX.cells _ 4 Z2).trans SX.2.2.1, (hX.cells _ 5 Z2).trans SX.2.2.2.1, (hX.cells _ 6 Z2).trans SX.2.2.2.2.1, (hX.cells _ 7 Z2).trans SX.2.2.2.2.2.1, (hX.cells _ 8 Z2).trans SX.2.2.2.2.2.2⟩))
    generalize Lib.decDigits u = DU at *
    generalize Lib.decDigits v = DV at *
    have f1 : ¬ 9223372036854775807 < 4 + 1 + DU.length := by omega
    have f2 : ¬ 9223372036854775807 < 4 + 1 + DU.length + 1 := by omega
    have f3 : ¬ 9223372036854775807 < 4 + 1 + DU.length + 1 + DV.length := by omega
    have N0 := Lib.hid N0; have Z2 := Lib.hid Z2
    refine wp_region_noPanic ?_
    refine wp_region_held_drew (S := fun w' => w'.cell? ⟨w.heap.size, 2, none⟩ = some (.int .i64 (u : Int)) ∧ w'.cell? ⟨w.heap.size, 3, none⟩ = some (.int .i64 (v : Int)) ∧ w'.cell? ⟨w.heap.size, 4, none⟩ = some (.int .i64 a0) ∧ w'.cell? ⟨w.heap.size, 5, none⟩ = some (.int .i64 a1) ∧ w'.cell? ⟨w.heap.size, 6, none⟩ = some (.int .i64 a2) ∧ w'.cell? ⟨w.heap.size, 7, none⟩ = some (.int .i64 a3) ∧ w'.cell? ⟨w.heap.size, 8, none⟩ = some (.int .i64 a4)) (by kernel_rfl) (SX.out W2 (New.refl _)) (fun hHeld => ?_)
    have ND := Lib.hid (New.refl W2).drew
    generalize W2.drew = Vd at ND hHeld ⊢
    refine wpAnyH_take (i := 0) (oi := _) (v := ?_) rfl (by kernel_rfl) (by kernel_rfl) (by kernel_rfl) (fun _ _ _ h => h) (Or.inl ⟨by kernel_rfl, ?_⟩) (by assumption) ?_
    rotate_left; (intro w' hSw; (try dsimp only at hSw); go_split_ands; go_simp; (try with_reducible rfl))
    try dsimp only [Act.put]
    refine wpAnyH_take (i := 1) (oi := _) (v := ?_) rfl (by kernel_rfl) (by kernel_rfl) (by kernel_rfl) (fun _ _ _ h => h) (Or.inl ⟨by kernel_rfl, ?_⟩) (by assumption) ?_
    rotate_left; (intro w' hSw; (try dsimp only at hSw); go_split_ands; go_simp; (try with_reducible rfl))
    try dsimp only [Act.put]
    refine wpAnyH_take (i := 2) (oi := _) (v := ?_) rfl (by kernel_rfl) (by kernel_rfl) (by kernel_rfl) (fun _ _ _ h => h) (Or.inl ⟨by kernel_rfl, ?_⟩) (by assumption) ?_
    rotate_left; (intro w' hSw; (try dsimp only at hSw); go_split_ands; go_simp; (try with_reducible rfl))
    try dsimp only [Act.put]
    refine wpAnyH_take (i := 3) (oi := _) (v := ?_) rfl (by kernel_rfl) (by kernel_rfl) (by kernel_rfl) (fun _ _ _ h => h) (Or.inl ⟨by kernel_rfl, ?_⟩) (by assumption) ?_
    rotate_left; (intro w' hSw; (try dsimp only at hSw); go_split_ands; go_simp; (try with_reducible rfl))
    try dsimp only [Act.put]
    refine wpAnyH_take (i := 7) (oi := _) (v := ?_) rfl (by kernel_rfl) (by kernel_rfl) (by kernel_rfl) (fun _ _ _ h => h) (Or.inl ⟨by kernel_rfl, ?_⟩) (by assumption) ?_
    rotate_left; (intro w' hSw; (try dsimp only at hSw); go_split_ands; go_simp; (try with_reducible rfl))
    try dsimp only [Act.put]
    refine wpAnyH_take (i := 8) (oi := _) (v := ?_) rfl (by kernel_rfl) (by kernel_rfl) (by kernel_rfl) (fun _ _ _ h => h) (Or.inl ⟨by kernel_rfl, ?_⟩) (by assumption) ?_
    rotate_left; (intro w' hSw; (try dsimp only at hSw); go_split_ands; go_simp; (try with_reducible rfl))
    try dsimp only [Act.put]
    refine wpAnyH_ready (rs := [4]) (by kernel_rfl) (by simp) ?_
    refine AllReadyH.cons (o := _) rfl (fun K hK => ?_) AllReadyH.nil
    go_simp
    go_at_call 59
    refine (DW.out _).mono ?_
    rintro e wc ⟨rfl, Nc⟩
    have N1 := Lib.hid (ND.out.trans Nc)
    clear Nc
    have Hwc := SX.out wc N1.out
    go_wp2_with fail
    refine hK.out _ _ (Hwc) (fun hH4 => ?_)
    clear hK K
    try dsimp only [Act.put]
    refine wpAnyH_take (i := 5) (oi := _) (v := ?_) rfl (by kernel_rfl) (by kernel_rfl) (by kernel_rfl) (fun _ _ _ h => h) (Or.inl ⟨by kernel_rfl, ?_⟩) (by assumption) ?_
    rotate_left; (intro w' hSw; (try dsimp only at hSw); go_split_ands; go_simp; (try with_reducible rfl))
    try dsimp only [Act.put]
    refine wpAnyH_take (i := 6) (oi := _) (v := ?_) rfl (by kernel_rfl) (by kernel_rfl) (by kernel_rfl) (fun _ _ _ h => h) (Or.inl ⟨by kernel_rfl, ?_⟩) (by assumption) ?_
    rotate_left; (intro w' hSw; (try dsimp only at hSw); go_split_ands; go_simp; (try with_reducible rfl))
    try dsimp only [Act.put]
    refine wpAnyH_ready (rs := [9]) (by kernel_rfl) (by simp) ?_
    refine AllReadyH.cons (o := _) rfl (fun K hK => ?_) AllReadyH.nil
    go_simp
    go_at_call 59
    refine (DH.out _).mono ?_
    rintro e wd ⟨rfl, Nc⟩
    have N3 := Lib.hid (N1.out.trans Nc)
    clear Nc
    have Hwd := SX.out wd N3.out
    go_wp2_with fail
    refine hK.out _ _ (Hwd) (fun hH9 => ?_)
    clear hK K
    try dsimp only [Act.put]
    refine wpAnyH_take (i := 10) (oi := _) (v := ?_) rfl (by kernel_rfl) (by kernel_rfl) (by kernel_rfl) (fun _ _ _ h => h) (Or.inl ⟨by kernel_rfl, ?_⟩) (by assumption) ?_
    rotate_left; (intro w' hSw; (try dsimp only at hSw); go_split_ands; go_simp; (try with_reducible rfl))
    try dsimp only [Act.put]
    refine wpAnyH_ready (rs := [11]) (by kernel_rfl) (by simp) ?_
    refine AllReadyH.cons (o := _) rfl (fun K hK => ?_) AllReadyH.nil
    go_simp
    refine hK.out _ _ (Hwd) (fun hH11 => ?_)
    clear hK K
    try dsimp only [Act.put]
    refine wpAnyH_done (by kernel_rfl) ?_ _
    refine NoPanic.normal ?_
    go_simp
    have N2 := Lib.hid (N0.out.trans N3.out)
    have Hwe := SX.out wd N3.out
    go_split_ands
    go_wp2
    have W0 : New w ((wd.alloc (.cells #[.int .i64 a0, .int .i64 a1, .int .i64 a2, .int .i64 a3, .int .i64 a4] 3)).alloc (.cells #[.string { data := #[112, 97, 100] }, .string { data := #[103, 97, 112] }, .string { data := #[103, 114, 111, 119] }, .string { data := #[115, 104, 114, 105, 110, 107] }, .string { data := #[106, 117, 115, 116, 105, 102, 121] }] 9)) := N2.out.trans (show New wd ((wd.alloc (.cells #[.int .i64 a0, .int .i64 a1, .int .i64 a2, .int .i64 a3, .int .i64 a4] 3)).alloc (.cells #[.string { data := #[112, 97, 100] }, .string { data := #[103, 97, 112] }, .string { data := #[103, 114, 111, 119] }, .string { data := #[115, 104, 114, 105, 110, 107] }, .string { data := #[106, 117, 115, 116, 105, 102, 121] }] 9)) by (repeat (first | exact New.refl _ | assumption | refine New.alloc ?_ _ | refine New.drew ?_ | refine New.drewN ?_ _ | refine New.setCell ?_ (by first | omega | (simp; omega) | (simp; done)) _ | refine New.trans ?_ (by assumption))))
    have V0 : ∀ j, j < 5 → (((wd.alloc (.cells #[.int .i64 a0, .int .i64 a1, .int .i64 a2, .int .i64 a3, .int .i64 a4] 3)).alloc (.cells #[.string { data := #[112, 97, 100] }, .string { data := #[103, 97, 112] }, .string { data := #[103, 114, 111, 119] }, .string { data := #[115, 104, 114, 105, 110, 107] }, .string { data := #[106, 117, 115, 116, 105, 102, 121] }] 9))).cell? ⟨wd.heap.size, j, none⟩ = some (.int .i64 (vs.getD j 0)) := fun j hj => by
      rw [← EVS.out]
      rcases (show j = 0 ∨ j = 1 ∨ j = 2 ∨ j = 3 ∨ j = 4 by omega) with rfl | rfl | rfl | rfl | rfl <;> simp [go_sem]
    have S0 : ∀ j, j < 5 → (((wd.alloc (.cells #[.int .i64 a0, .int .i64 a1, .int .i64 a2, .int .i64 a3, .int .i64 a4] 3)).alloc (.cells #[.string { data := #[112, 97, 100] }, .string { data := #[103, 97, 112] }, .string { data := #[103, 114, 111, 119] }, .string { data := #[115, 104, 114, 105, 110, 107] }, .string { data := #[106, 117, 115, 116, 105, 102, 121] }] 9))).cell? ⟨wd.heap.size + 1, j, none⟩ = some (str (nm j)) := fun j hj => by
      rcases (show j = 0 ∨ j = 1 ∨ j = 2 ∨ j = 3 ∨ j = 4 by omega) with rfl | rfl | rfl | rfl | rfl <;> simp [go_sem, nm]
    have Z0 : wd.heap.size + 1 < (((wd.alloc (.cells #[.int .i64 a0, .int .i64 a1, .int .i64 a2, .int .i64 a3, .int .i64 a4] 3)).alloc (.cells #[.string { data := #[112, 97, 100] }, .string { data := #[103, 97, 112] }, .string { data := #[103, 114, 111, 119] }, .string { data := #[115, 104, 114, 105, 110, 107] }, .string { data := #[106, 117, 115, 116, 105, 102, 121] }] 9))).heap.size := by simp
    have W0 := Lib.hid W0; have V0 := Lib.hid V0; have S0 := Lib.hid S0; have Z0 := Lib.hid Z0
    generalize hWB : ((wd.alloc (.cells #[.int .i64 a0, .int .i64 a1, .int .i64 a2, .int .i64 a3, .int .i64 a4] 3)).alloc (.cells #[.string { data := #[112, 97, 100] }, .string { data := #[103, 97, 112] }, .string { data := #[103, 114, 111, 119] }, .string { data := #[115, 104, 114, 105, 110, 107] }, .string { data := #[106, 117, 115, 116, 105, 102, 121] }] 9)) = WB at *
    replace hWB := Lib.hid hWB
    go_loopw [3, 6] (fun t i wr => ∃ j : Nat, j ≤ 5 ∧ i = .int .i64 j ∧ t = str (hdT 0 (u : Int) (v : Int) ++ sws vs j) ∧ Hid (New WB wr)) (fun _ i _ => 5 - (intOf i).toNat)
    case atStart => exact ⟨0, Nat.zero_le _, rfl, by rw [EH.out]; simp [str, ByteArray.mk_append_mk, kn, sws], Lib.hid (New.refl _)⟩
    case round =>
      obtain ⟨j, hj, rfl, rfl, HN⟩ := hrel
      have j0 : (0 : Int) ≤ (j : Int) := by omega
      have TL := SL.out j hj
      rw [EVS.out] at TL
      obtain ⟨T, hT⟩ : ∃ T, hdT 0 (u : Int) (v : Int) ++ sws vs j = T := ⟨_, rfl⟩
      have TL2 : T.length ≤ 100 := by have := HT.out 0; rw [← hT, List.length_append]; omega
      rw [hT]
      have HTT := Lib.hid hT
      clear hT TL
      by_cases hlt : j < 5
      · have j1 : (j : Int) < 5 := by omega
        have CV := Lib.hid (fun X (hX : New wr X) => ((HN.out.trans hX).cells _ j (by have := Z0.out; omega)).trans (V0.out j hlt))
        have CS := Lib.hid (fun X (hX : New wr X) => ((HN.out.trans hX).cells _ j Z0.out).trans (S0.out j hlt))
        obtain ⟨b0, b1⟩ := HVS.out j hlt
        rw [EVS.out] at b0 b1
        have YES := Lib.hid (fun h => sws_yes (vs := vs) (j := j) h)
        have NO := Lib.hid (fun h => sws_no (vs := vs) (j := j) h)
        have ND_ := nm_len j
        generalize vs.getD j 0 = x at *
        generalize nm j = nmj at *
        have g1 := CV.out wr (New.refl _)
        by_cases hx : x = 0
        · have NX := Lib.hid (NO.out hx)
          subst hx
          go_wp2
          go_roundw
          case rel => exact ⟨j + 1, by omega, by go_num, by rw [NX.out, HTT.out], HN⟩
          case measure => simp [intOf]; omega
        · have NX := Lib.hid (YES.out hx)
          obtain ⟨y, rfl⟩ := Int.eq_ofNat_of_zero_le b0
          have yp : (0 : Int) < (y : Int) := by omega
          have DY := Lib.hid (fun W => decimalN_any y (by omega) W)
          have LY := dd_len (v := (y : Int)) ⟨b0, b1⟩
          rw [Int.toNat_natCast] at NX LY
          generalize Lib.decDigits y = D at *
          have f1 : ¬ 9223372036854775807 < T.length + 1 := by omega
          have f2 : ¬ 9223372036854775807 < T.length + 1 + nmj.length := by omega
          have f3 : ¬ 9223372036854775807 < T.length + 1 + nmj.length + 1 := by omega
          have f4 : ¬ 9223372036854775807 < T.length + 1 + nmj.length + 1 + D.length := by omega
          have ND := Lib.hid (New.refl wr).drew
          clear hx
          go_wp2
          clear g1
          refine wp_region_noPanic ?_
          refine wp_region_held_drew (S := fun w' => w'.cell? ⟨wd.heap.size, j, none⟩ = some (.int .i64 (y : Int)) ∧ w'.cell? ⟨wd.heap.size + 1, j, none⟩ = some (str nmj)) (by kernel_rfl) (⟨CV.out _ ND.out, CS.out _ ND.out⟩) (fun hHeld => ?_)
          generalize wr.drew = Vd at ND hHeld ⊢
          refine wpAnyH_take (i := 0) (oi := _) (v := ?_) rfl (by kernel_rfl) (by kernel_rfl) (by kernel_rfl) (fun _ _ _ h => h) (Or.inl ⟨by kernel_rfl, ?_⟩) (by assumption) ?_
          rotate_left; (intro w' hSw; (try dsimp only at hSw); go_split_ands; go_simp; (try with_reducible rfl))
          try dsimp only [Act.put]
          refine wpAnyH_take (i := 1) (oi := _) (v := ?_) rfl (by kernel_rfl) (by kernel_rfl) (by kernel_rfl) (fun _ _ _ h => h) (Or.inl ⟨by kernel_rfl, ?_⟩) (by assumption) ?_
          rotate_left; (intro w' hSw; (try dsimp only at hSw); go_split_ands; go_simp; (try with_reducible rfl))
          try dsimp only [Act.put]
          refine wpAnyH_take (i := 2) (oi := _) (v := ?_) rfl (by kernel_rfl) (by kernel_rfl) (by kernel_rfl) (fun _ _ _ h => h) (Or.inl ⟨by kernel_rfl, ?_⟩) (by assumption) ?_
          rotate_left; (intro w' hSw; (try dsimp only at hSw); go_split_ands; go_simp; (try with_reducible rfl))
          try dsimp only [Act.put]
          refine wpAnyH_take (i := 3) (oi := _) (v := ?_) rfl (by kernel_rfl) (by kernel_rfl) (by kernel_rfl) (fun _ _ _ h => h) (Or.inl ⟨by kernel_rfl, ?_⟩) (by assumption) ?_
          rotate_left; (intro w' hSw; (try dsimp only at hSw); go_split_ands; go_simp; (try with_reducible rfl))
          try dsimp only [Act.put]
          refine wpAnyH_take (i := 4) (oi := _) (v := ?_) rfl (by kernel_rfl) (by kernel_rfl) (by kernel_rfl) (fun _ _ _ h => h) (Or.inl ⟨by kernel_rfl, ?_⟩) (by assumption) ?_
          rotate_left; (intro w' hSw; (try dsimp only at hSw); go_split_ands; go_simp; (try with_reducible rfl))
          try dsimp only [Act.put]
          refine wpAnyH_take (i := 5) (oi := _) (v := ?_) rfl (by kernel_rfl) (by kernel_rfl) (by kernel_rfl) (fun _ _ _ h => h) (Or.inl ⟨by kernel_rfl, ?_⟩) (by assumption) ?_
          rotate_left; (intro w' hSw; (try dsimp only at hSw); go_split_ands; go_simp; (try with_reducible rfl))
          try dsimp only [Act.put]
          refine wpAnyH_take (i := 6) (oi := _) (v := ?_) rfl (by kernel_rfl) (by kernel_rfl) (by kernel_rfl) (fun _ _ _ h => h) (Or.inl ⟨by kernel_rfl, ?_⟩) (by assumption) ?_
          rotate_left; (intro w' hSw; (try dsimp only at hSw); go_split_ands; go_simp; (try with_reducible rfl))
          try dsimp only [Act.put]
          refine wpAnyH_take (i := 7) (oi := _) (v := ?_) rfl (by kernel_rfl) (by kernel_rfl) (by kernel_rfl) (fun _ _ _ h => h) (Or.inl ⟨by kernel_rfl, ?_⟩) (by assumption) ?_
          rotate_left; (intro w' hSw; (try dsimp only at hSw); go_split_ands; go_simp; (try with_reducible rfl))
          try dsimp only [Act.put]
          refine wpAnyH_take (i := 8) (oi := _) (v := ?_) rfl (by kernel_rfl) (by kernel_rfl) (by kernel_rfl) (fun _ _ _ h => h) (Or.inl ⟨by kernel_rfl, ?_⟩) (by assumption) ?_
          rotate_left; (intro w' hSw; (try dsimp only at hSw); go_split_ands; go_simp; (try with_reducible rfl))
          try dsimp only [Act.put]
          refine wpAnyH_take (i := 9) (oi := _) (v := ?_) rfl (by kernel_rfl) (by kernel_rfl) (by kernel_rfl) (fun _ _ _ h => h) (Or.inl ⟨by kernel_rfl, ?_⟩) (by assumption) ?_
          rotate_left; (intro w' hSw; (try dsimp only at hSw); go_split_ands; go_simp; (try with_reducible rfl))
          try dsimp only [Act.put]
          refine wpAnyH_take (i := 10) (oi := _) (v := ?_) rfl (by kernel_rfl) (by kernel_rfl) (by kernel_rfl) (fun _ _ _ h => h) (Or.inl ⟨by kernel_rfl, ?_⟩) (by assumption) ?_
          rotate_left; (intro w' hSw; (try dsimp only at hSw); go_split_ands; go_simp; (try with_reducible rfl))
          try dsimp only [Act.put]
          refine wpAnyH_take (i := 11) (oi := _) (v := ?_) rfl (by kernel_rfl) (by kernel_rfl) (by kernel_rfl) (fun _ _ _ h => h) (Or.inl ⟨by kernel_rfl, ?_⟩) (by assumption) ?_
          rotate_left; (intro w' hSw; (try dsimp only at hSw); go_split_ands; go_simp; (try with_reducible rfl))
          try dsimp only [Act.put]
          refine wpAnyH_ready (rs := [12]) (by kernel_rfl) (by simp) ?_
          refine AllReadyH.cons (o := _) rfl (fun K hK => ?_) AllReadyH.nil
          go_simp
          go_at_call 59
          refine (DY.out _).mono ?_
          rintro e wc ⟨rfl, Nc⟩
          have NF := Lib.hid (ND.out.trans Nc)
          clear Nc
          go_wp2_with fail
          refine hK.out _ _ (⟨CV.out _ NF.out, CS.out _ NF.out⟩) (fun hH12 => ?_)
          clear hK K
          try dsimp only [Act.put]
          refine wpAnyH_take (i := 13) (oi := _) (v := ?_) rfl (by kernel_rfl) (by kernel_rfl) (by kernel_rfl) (fun _ _ _ h => h) (Or.inl ⟨by kernel_rfl, ?_⟩) (by assumption) ?_
          rotate_left; (intro w' hSw; (try dsimp only at hSw); go_split_ands; go_simp; (try with_reducible rfl))
          try dsimp only [Act.put]
          refine wpAnyH_ready (rs := [14]) (by kernel_rfl) (by simp) ?_
          refine AllReadyH.cons (o := _) rfl (fun K hK => ?_) AllReadyH.nil
          go_simp
          refine hK.out _ _ (⟨CV.out _ NF.out, CS.out _ NF.out⟩) (fun hH14 => ?_)
          clear hK K
          try dsimp only [Act.put]
          refine wpAnyH_done (by kernel_rfl) ?_ _
          refine NoPanic.normal ?_
          go_simp
          go_wp2
          go_roundw
          case rel =>
            skip
            refine ⟨j + 1, by omega, ?_, ?_, ?_⟩
            · go_num
            · rw [NX.out, ← List.append_assoc, HTT.out]; simp [str, ByteArray.mk_append_mk]
            · exact Lib.hid (HN.out.trans NF.out)
          case measure => simp [intOf]; omega
      · obtain rfl : j = 5 := by omega
        go_wp2
        go_ret
        exact ⟨by rw [← HTT.out, ← EVS.out]; rfl, W0.out.trans HN.out⟩
  · have EH : Hid (hdT 1 (u : Int) (v : Int) = kn 1) := Lib.hid rfl
    clear hv hw hh hvs
    go_enter Tryz.func32, Tryz.ntmps32
    go_wp2
    have W0 : New w ((((w.alloc (.cells #[.int .i64 p, .int .i64 1, .int .i64 (u : Int), .int .i64 (v : Int), .int .i64 a0, .int .i64 a1, .int .i64 a2, .int .i64 a3, .int .i64 a4] 38)).alloc (.cells #[.string { data := #[108, 101, 97, 102] }, .string { data := #[98, 108, 111, 99, 107] }, .string { data := #[114, 111, 119] }, .string { data := #[99, 111, 108, 117, 109, 110] }] 9)).alloc (.cells #[.int .i64 a0, .int .i64 a1, .int .i64 a2, .int .i64 a3, .int .i64 a4] 3)).alloc (.cells #[.string { data := #[112, 97, 100] }, .string { data := #[103, 97, 112] }, .string { data := #[103, 114, 111, 119] }, .string { data := #[115, 104, 114, 105, 110, 107] }, .string { data := #[106, 117, 115, 116, 105, 102, 121] }] 9)) := by (repeat (first | exact New.refl _ | assumption | refine New.alloc ?_ _ | refine New.drew ?_ | refine New.drewN ?_ _ | refine New.setCell ?_ (by first | omega | (simp; omega) | (simp; done)) _ | refine New.trans ?_ (by assumption)))
    have V0 : ∀ j, j < 5 → (((((w.alloc (.cells #[.int .i64 p, .int .i64 1, .int .i64 (u : Int), .int .i64 (v : Int), .int .i64 a0, .int .i64 a1, .int .i64 a2, .int .i64 a3, .int .i64 a4] 38)).alloc (.cells #[.string { data := #[108, 101, 97, 102] }, .string { data := #[98, 108, 111, 99, 107] }, .string { data := #[114, 111, 119] }, .string { data := #[99, 111, 108, 117, 109, 110] }] 9)).alloc (.cells #[.int .i64 a0, .int .i64 a1, .int .i64 a2, .int .i64 a3, .int .i64 a4] 3)).alloc (.cells #[.string { data := #[112, 97, 100] }, .string { data := #[103, 97, 112] }, .string { data := #[103, 114, 111, 119] }, .string { data := #[115, 104, 114, 105, 110, 107] }, .string { data := #[106, 117, 115, 116, 105, 102, 121] }] 9))).cell? ⟨w.heap.size + 1 + 1, j, none⟩ = some (.int .i64 (vs.getD j 0)) := fun j hj => by
      rw [← EVS.out]
      rcases (show j = 0 ∨ j = 1 ∨ j = 2 ∨ j = 3 ∨ j = 4 by omega) with rfl | rfl | rfl | rfl | rfl <;> simp [go_sem]
    have S0 : ∀ j, j < 5 → (((((w.alloc (.cells #[.int .i64 p, .int .i64 1, .int .i64 (u : Int), .int .i64 (v : Int), .int .i64 a0, .int .i64 a1, .int .i64 a2, .int .i64 a3, .int .i64 a4] 38)).alloc (.cells #[.string { data := #[108, 101, 97, 102] }, .string { data := #[98, 108, 111, 99, 107] }, .string { data := #[114, 111, 119] }, .string { data := #[99, 111, 108, 117, 109, 110] }] 9)).alloc (.cells #[.int .i64 a0, .int .i64 a1, .int .i64 a2, .int .i64 a3, .int .i64 a4] 3)).alloc (.cells #[.string { data := #[112, 97, 100] }, .string { data := #[103, 97, 112] }, .string { data := #[103, 114, 111, 119] }, .string { data := #[115, 104, 114, 105, 110, 107] }, .string { data := #[106, 117, 115, 116, 105, 102, 121] }] 9))).cell? ⟨w.heap.size + 1 + 1 + 1, j, none⟩ = some (str (nm j)) := fun j hj => by
      rcases (show j = 0 ∨ j = 1 ∨ j = 2 ∨ j = 3 ∨ j = 4 by omega) with rfl | rfl | rfl | rfl | rfl <;> simp [go_sem, nm]
    have Z0 : w.heap.size + 1 + 1 + 1 < (((((w.alloc (.cells #[.int .i64 p, .int .i64 1, .int .i64 (u : Int), .int .i64 (v : Int), .int .i64 a0, .int .i64 a1, .int .i64 a2, .int .i64 a3, .int .i64 a4] 38)).alloc (.cells #[.string { data := #[108, 101, 97, 102] }, .string { data := #[98, 108, 111, 99, 107] }, .string { data := #[114, 111, 119] }, .string { data := #[99, 111, 108, 117, 109, 110] }] 9)).alloc (.cells #[.int .i64 a0, .int .i64 a1, .int .i64 a2, .int .i64 a3, .int .i64 a4] 3)).alloc (.cells #[.string { data := #[112, 97, 100] }, .string { data := #[103, 97, 112] }, .string { data := #[103, 114, 111, 119] }, .string { data := #[115, 104, 114, 105, 110, 107] }, .string { data := #[106, 117, 115, 116, 105, 102, 121] }] 9))).heap.size := by simp
    have W0 := Lib.hid W0; have V0 := Lib.hid V0; have S0 := Lib.hid S0; have Z0 := Lib.hid Z0
    generalize hWB : ((((w.alloc (.cells #[.int .i64 p, .int .i64 1, .int .i64 (u : Int), .int .i64 (v : Int), .int .i64 a0, .int .i64 a1, .int .i64 a2, .int .i64 a3, .int .i64 a4] 38)).alloc (.cells #[.string { data := #[108, 101, 97, 102] }, .string { data := #[98, 108, 111, 99, 107] }, .string { data := #[114, 111, 119] }, .string { data := #[99, 111, 108, 117, 109, 110] }] 9)).alloc (.cells #[.int .i64 a0, .int .i64 a1, .int .i64 a2, .int .i64 a3, .int .i64 a4] 3)).alloc (.cells #[.string { data := #[112, 97, 100] }, .string { data := #[103, 97, 112] }, .string { data := #[103, 114, 111, 119] }, .string { data := #[115, 104, 114, 105, 110, 107] }, .string { data := #[106, 117, 115, 116, 105, 102, 121] }] 9)) = WB at *
    replace hWB := Lib.hid hWB
    go_loopw [3, 6] (fun t i wr => ∃ j : Nat, j ≤ 5 ∧ i = .int .i64 j ∧ t = str (hdT 1 (u : Int) (v : Int) ++ sws vs j) ∧ Hid (New WB wr)) (fun _ i _ => 5 - (intOf i).toNat)
    case atStart => exact ⟨0, Nat.zero_le _, rfl, by rw [EH.out]; rfl, Lib.hid (New.refl _)⟩
    case round =>
      obtain ⟨j, hj, rfl, rfl, HN⟩ := hrel
      have j0 : (0 : Int) ≤ (j : Int) := by omega
      have TL := SL.out j hj
      rw [EVS.out] at TL
      obtain ⟨T, hT⟩ : ∃ T, hdT 1 (u : Int) (v : Int) ++ sws vs j = T := ⟨_, rfl⟩
      have TL2 : T.length ≤ 100 := by have := HT.out 1; rw [← hT, List.length_append]; omega
      rw [hT]
      have HTT := Lib.hid hT
      clear hT TL
      by_cases hlt : j < 5
      · have j1 : (j : Int) < 5 := by omega
        have CV := Lib.hid (fun X (hX : New wr X) => ((HN.out.trans hX).cells _ j (by have := Z0.out; omega)).trans (V0.out j hlt))
        have CS := Lib.hid (fun X (hX : New wr X) => ((HN.out.trans hX).cells _ j Z0.out).trans (S0.out j hlt))
        obtain ⟨b0, b1⟩ := HVS.out j hlt
        rw [EVS.out] at b0 b1
        have YES := Lib.hid (fun h => sws_yes (vs := vs) (j := j) h)
        have NO := Lib.hid (fun h => sws_no (vs := vs) (j := j) h)
        have ND_ := nm_len j
        generalize vs.getD j 0 = x at *
        generalize nm j = nmj at *
        have g1 := CV.out wr (New.refl _)
        by_cases hx : x = 0
        · have NX := Lib.hid (NO.out hx)
          subst hx
          go_wp2
          go_roundw
          case rel => exact ⟨j + 1, by omega, by go_num, by rw [NX.out, HTT.out], HN⟩
          case measure => simp [intOf]; omega
        · have NX := Lib.hid (YES.out hx)
          obtain ⟨y, rfl⟩ := Int.eq_ofNat_of_zero_le b0
          have yp : (0 : Int) < (y : Int) := by omega
          have DY := Lib.hid (fun W => decimalN_any y (by omega) W)
          have LY := dd_len (v := (y : Int)) ⟨b0, b1⟩
          rw [Int.toNat_natCast] at NX LY
          generalize Lib.decDigits y = D at *
          have f1 : ¬ 9223372036854775807 < T.length + 1 := by omega
          have f2 : ¬ 9223372036854775807 < T.length + 1 + nmj.length := by omega
          have f3 : ¬ 9223372036854775807 < T.length + 1 + nmj.length + 1 := by omega
          have f4 : ¬ 9223372036854775807 < T.length + 1 + nmj.length + 1 + D.length := by omega
          have ND := Lib.hid (New.refl wr).drew
          clear hx
          go_wp2
          clear g1
          refine wp_region_noPanic ?_
          refine wp_region_held_drew (S := fun w' => w'.cell? ⟨w.heap.size + 1 + 1, j, none⟩ = some (.int .i64 (y : Int)) ∧ w'.cell? ⟨w.heap.size + 1 + 1 + 1, j, none⟩ = some (str nmj)) (by kernel_rfl) (⟨CV.out _ ND.out, CS.out _ ND.out⟩) (fun hHeld => ?_)
          generalize wr.drew = Vd at ND hHeld ⊢
          refine wpAnyH_take (i := 0) (oi := _) (v := ?_) rfl (by kernel_rfl) (by kernel_rfl) (by kernel_rfl) (fun _ _ _ h => h) (Or.inl ⟨by kernel_rfl, ?_⟩) (by assumption) ?_
          rotate_left; (intro w' hSw; (try dsimp only at hSw); go_split_ands; go_simp; (try with_reducible rfl))
          try dsimp only [Act.put]
          refine wpAnyH_take (i := 1) (oi := _) (v := ?_) rfl (by kernel_rfl) (by kernel_rfl) (by kernel_rfl) (fun _ _ _ h => h) (Or.inl ⟨by kernel_rfl, ?_⟩) (by assumption) ?_
          rotate_left; (intro w' hSw; (try dsimp only at hSw); go_split_ands; go_simp; (try with_reducible rfl))
          try dsimp only [Act.put]
          refine wpAnyH_take (i := 2) (oi := _) (v := ?_) rfl (by kernel_rfl) (by kernel_rfl) (by kernel_rfl) (fun _ _ _ h => h) (Or.inl ⟨by kernel_rfl, ?_⟩) (by assumption) ?_
          rotate_left; (intro w' hSw; (try dsimp only at hSw); go_split_ands; go_simp; (try with_reducible rfl))
          try dsimp only [Act.put]
          refine wpAnyH_take (i := 3) (oi := _) (v := ?_) rfl (by kernel_rfl) (by kernel_rfl) (by kernel_rfl) (fun _ _ _ h => h) (Or.inl ⟨by kernel_rfl, ?_⟩) (by assumption) ?_
          rotate_left; (intro w' hSw; (try dsimp only at hSw); go_split_ands; go_simp; (try with_reducible rfl))
          try dsimp only [Act.put]
          refine wpAnyH_take (i := 4) (oi := _) (v := ?_) rfl (by kernel_rfl) (by kernel_rfl) (by kernel_rfl) (fun _ _ _ h => h) (Or.inl ⟨by kernel_rfl, ?_⟩) (by assumption) ?_
          rotate_left; (intro w' hSw; (try dsimp only at hSw); go_split_ands; go_simp; (try with_reducible rfl))
          try dsimp only [Act.put]
          refine wpAnyH_take (i := 5) (oi := _) (v := ?_) rfl (by kernel_rfl) (by kernel_rfl) (by kernel_rfl) (fun _ _ _ h => h) (Or.inl ⟨by kernel_rfl, ?_⟩) (by assumption) ?_
          rotate_left; (intro w' hSw; (try dsimp only at hSw); go_split_ands; go_simp; (try with_reducible rfl))
          try dsimp only [Act.put]
          refine wpAnyH_take (i := 6) (oi := _) (v := ?_) rfl (by kernel_rfl) (by kernel_rfl) (by kernel_rfl) (fun _ _ _ h => h) (Or.inl ⟨by kernel_rfl, ?_⟩) (by assumption) ?_
          rotate_left; (intro w' hSw; (try dsimp only at hSw); go_split_ands; go_simp; (try with_reducible rfl))
          try dsimp only [Act.put]
          refine wpAnyH_take (i := 7) (oi := _) (v := ?_) rfl (by kernel_rfl) (by kernel_rfl) (by kernel_rfl) (fun _ _ _ h => h) (Or.inl ⟨by kernel_rfl, ?_⟩) (by assumption) ?_
          rotate_left; (intro w' hSw; (try dsimp only at hSw); go_split_ands; go_simp; (try with_reducible rfl))
          try dsimp only [Act.put]
          refine wpAnyH_take (i := 8) (oi := _) (v := ?_) rfl (by kernel_rfl) (by kernel_rfl) (by kernel_rfl) (fun _ _ _ h => h) (Or.inl ⟨by kernel_rfl, ?_⟩) (by assumption) ?_
          rotate_left; (intro w' hSw; (try dsimp only at hSw); go_split_ands; go_simp; (try with_reducible rfl))
          try dsimp only [Act.put]
          refine wpAnyH_take (i := 9) (oi := _) (v := ?_) rfl (by kernel_rfl) (by kernel_rfl) (by kernel_rfl) (fun _ _ _ h => h) (Or.inl ⟨by kernel_rfl, ?_⟩) (by assumption) ?_
          rotate_left; (intro w' hSw; (try dsimp only at hSw); go_split_ands; go_simp; (try with_reducible rfl))
          try dsimp only [Act.put]
          refine wpAnyH_take (i := 10) (oi := _) (v := ?_) rfl (by kernel_rfl) (by kernel_rfl) (by kernel_rfl) (fun _ _ _ h => h) (Or.inl ⟨by kernel_rfl, ?_⟩) (by assumption) ?_
          rotate_left; (intro w' hSw; (try dsimp only at hSw); go_split_ands; go_simp; (try with_reducible rfl))
          try dsimp only [Act.put]
          refine wpAnyH_take (i := 11) (oi := _) (v := ?_) rfl (by kernel_rfl) (by kernel_rfl) (by kernel_rfl) (fun _ _ _ h => h) (Or.inl ⟨by kernel_rfl, ?_⟩) (by assumption) ?_
          rotate_left; (intro w' hSw; (try dsimp only at hSw); go_split_ands; go_simp; (try with_reducible rfl))
          try dsimp only [Act.put]
          refine wpAnyH_ready (rs := [12]) (by kernel_rfl) (by simp) ?_
          refine AllReadyH.cons (o := _) rfl (fun K hK => ?_) AllReadyH.nil
          go_simp
          go_at_call 59
          refine (DY.out _).mono ?_
          rintro e wc ⟨rfl, Nc⟩
          have NF := Lib.hid (ND.out.trans Nc)
          clear Nc
          go_wp2_with fail
          refine hK.out _ _ (⟨CV.out _ NF.out, CS.out _ NF.out⟩) (fun hH12 => ?_)
          clear hK K
          try dsimp only [Act.put]
          refine wpAnyH_take (i := 13) (oi := _) (v := ?_) rfl (by kernel_rfl) (by kernel_rfl) (by kernel_rfl) (fun _ _ _ h => h) (Or.inl ⟨by kernel_rfl, ?_⟩) (by assumption) ?_
          rotate_left; (intro w' hSw; (try dsimp only at hSw); go_split_ands; go_simp; (try with_reducible rfl))
          try dsimp only [Act.put]
          refine wpAnyH_ready (rs := [14]) (by kernel_rfl) (by simp) ?_
          refine AllReadyH.cons (o := _) rfl (fun K hK => ?_) AllReadyH.nil
          go_simp
          refine hK.out _ _ (⟨CV.out _ NF.out, CS.out _ NF.out⟩) (fun hH14 => ?_)
          clear hK K
          try dsimp only [Act.put]
          refine wpAnyH_done (by kernel_rfl) ?_ _
          refine NoPanic.normal ?_
          go_simp
          go_wp2
          go_roundw
          case rel =>
            (repeat apply Exists.intro)
            refine ⟨⟨j + 1, by omega, ?_, ?_, ?_⟩, rfl⟩
            · go_num
            · rw [NX.out, ← List.append_assoc, HTT.out]; simp [str, ByteArray.mk_append_mk]
            · exact Lib.hid (HN.out.trans NF.out)
          case measure => simp [intOf]; omega
      · obtain rfl : j = 5 := by omega
        go_wp2
        go_ret
        exact ⟨by rw [← HTT.out, ← EVS.out]; rfl, W0.out.trans HN.out⟩
  · have EH : Hid (hdT 2 (u : Int) (v : Int) = kn 2) := Lib.hid rfl
    clear hv hw hh hvs
    go_enter Tryz.func32, Tryz.ntmps32
    go_wp2
    have W0 : New w ((((w.alloc (.cells #[.int .i64 p, .int .i64 2, .int .i64 (u : Int), .int .i64 (v : Int), .int .i64 a0, .int .i64 a1, .int .i64 a2, .int .i64 a3, .int .i64 a4] 38)).alloc (.cells #[.string { data := #[108, 101, 97, 102] }, .string { data := #[98, 108, 111, 99, 107] }, .string { data := #[114, 111, 119] }, .string { data := #[99, 111, 108, 117, 109, 110] }] 9)).alloc (.cells #[.int .i64 a0, .int .i64 a1, .int .i64 a2, .int .i64 a3, .int .i64 a4] 3)).alloc (.cells #[.string { data := #[112, 97, 100] }, .string { data := #[103, 97, 112] }, .string { data := #[103, 114, 111, 119] }, .string { data := #[115, 104, 114, 105, 110, 107] }, .string { data := #[106, 117, 115, 116, 105, 102, 121] }] 9)) := by (repeat (first | exact New.refl _ | assumption | refine New.alloc ?_ _ | refine New.drew ?_ | refine New.drewN ?_ _ | refine New.setCell ?_ (by first | omega | (simp; omega) | (simp; done)) _ | refine New.trans ?_ (by assumption)))
    have V0 : ∀ j, j < 5 → (((((w.alloc (.cells #[.int .i64 p, .int .i64 2, .int .i64 (u : Int), .int .i64 (v : Int), .int .i64 a0, .int .i64 a1, .int .i64 a2, .int .i64 a3, .int .i64 a4] 38)).alloc (.cells #[.string { data := #[108, 101, 97, 102] }, .string { data := #[98, 108, 111, 99, 107] }, .string { data := #[114, 111, 119] }, .string { data := #[99, 111, 108, 117, 109, 110] }] 9)).alloc (.cells #[.int .i64 a0, .int .i64 a1, .int .i64 a2, .int .i64 a3, .int .i64 a4] 3)).alloc (.cells #[.string { data := #[112, 97, 100] }, .string { data := #[103, 97, 112] }, .string { data := #[103, 114, 111, 119] }, .string { data := #[115, 104, 114, 105, 110, 107] }, .string { data := #[106, 117, 115, 116, 105, 102, 121] }] 9))).cell? ⟨w.heap.size + 1 + 1, j, none⟩ = some (.int .i64 (vs.getD j 0)) := fun j hj => by
      rw [← EVS.out]
      rcases (show j = 0 ∨ j = 1 ∨ j = 2 ∨ j = 3 ∨ j = 4 by omega) with rfl | rfl | rfl | rfl | rfl <;> simp [go_sem]
    have S0 : ∀ j, j < 5 → (((((w.alloc (.cells #[.int .i64 p, .int .i64 2, .int .i64 (u : Int), .int .i64 (v : Int), .int .i64 a0, .int .i64 a1, .int .i64 a2, .int .i64 a3, .int .i64 a4] 38)).alloc (.cells #[.string { data := #[108, 101, 97, 102] }, .string { data := #[98, 108, 111, 99, 107] }, .string { data := #[114, 111, 119] }, .string { data := #[99, 111, 108, 117, 109, 110] }] 9)).alloc (.cells #[.int .i64 a0, .int .i64 a1, .int .i64 a2, .int .i64 a3, .int .i64 a4] 3)).alloc (.cells #[.string { data := #[112, 97, 100] }, .string { data := #[103, 97, 112] }, .string { data := #[103, 114, 111, 119] }, .string { data := #[115, 104, 114, 105, 110, 107] }, .string { data := #[106, 117, 115, 116, 105, 102, 121] }] 9))).cell? ⟨w.heap.size + 1 + 1 + 1, j, none⟩ = some (str (nm j)) := fun j hj => by
      rcases (show j = 0 ∨ j = 1 ∨ j = 2 ∨ j = 3 ∨ j = 4 by omega) with rfl | rfl | rfl | rfl | rfl <;> simp [go_sem, nm]
    have Z0 : w.heap.size + 1 + 1 + 1 < (((((w.alloc (.cells #[.int .i64 p, .int .i64 2, .int .i64 (u : Int), .int .i64 (v : Int), .int .i64 a0, .int .i64 a1, .int .i64 a2, .int .i64 a3, .int .i64 a4] 38)).alloc (.cells #[.string { data := #[108, 101, 97, 102] }, .string { data := #[98, 108, 111, 99, 107] }, .string { data := #[114, 111, 119] }, .string { data := #[99, 111, 108, 117, 109, 110] }] 9)).alloc (.cells #[.int .i64 a0, .int .i64 a1, .int .i64 a2, .int .i64 a3, .int .i64 a4] 3)).alloc (.cells #[.string { data := #[112, 97, 100] }, .string { data := #[103, 97, 112] }, .string { data := #[103, 114, 111, 119] }, .string { data := #[115, 104, 114, 105, 110, 107] }, .string { data := #[106, 117, 115, 116, 105, 102, 121] }] 9))).heap.size := by simp
    have W0 := Lib.hid W0; have V0 := Lib.hid V0; have S0 := Lib.hid S0; have Z0 := Lib.hid Z0
    generalize hWB : ((((w.alloc (.cells #[.int .i64 p, .int .i64 2, .int .i64 (u : Int), .int .i64 (v : Int), .int .i64 a0, .int .i64 a1, .int .i64 a2, .int .i64 a3, .int .i64 a4] 38)).alloc (.cells #[.string { data := #[108, 101, 97, 102] }, .string { data := #[98, 108, 111, 99, 107] }, .string { data := #[114, 111, 119] }, .string { data := #[99, 111, 108, 117, 109, 110] }] 9)).alloc (.cells #[.int .i64 a0, .int .i64 a1, .int .i64 a2, .int .i64 a3, .int .i64 a4] 3)).alloc (.cells #[.string { data := #[112, 97, 100] }, .string { data := #[103, 97, 112] }, .string { data := #[103, 114, 111, 119] }, .string { data := #[115, 104, 114, 105, 110, 107] }, .string { data := #[106, 117, 115, 116, 105, 102, 121] }] 9)) = WB at *
    replace hWB := Lib.hid hWB
    go_loopw [3, 6] (fun t i wr => ∃ j : Nat, j ≤ 5 ∧ i = .int .i64 j ∧ t = str (hdT 2 (u : Int) (v : Int) ++ sws vs j) ∧ Hid (New WB wr)) (fun _ i _ => 5 - (intOf i).toNat)
    case atStart => exact ⟨0, Nat.zero_le _, rfl, by rw [EH.out]; rfl, Lib.hid (New.refl _)⟩
    case round =>
      obtain ⟨j, hj, rfl, rfl, HN⟩ := hrel
      have j0 : (0 : Int) ≤ (j : Int) := by omega
      have TL := SL.out j hj
      rw [EVS.out] at TL
      obtain ⟨T, hT⟩ : ∃ T, hdT 2 (u : Int) (v : Int) ++ sws vs j = T := ⟨_, rfl⟩
      have TL2 : T.length ≤ 100 := by have := HT.out 2; rw [← hT, List.length_append]; omega
      rw [hT]
      have HTT := Lib.hid hT
      clear hT TL
      by_cases hlt : j < 5
      · have j1 : (j : Int) < 5 := by omega
        have CV := Lib.hid (fun X (hX : New wr X) => ((HN.out.trans hX).cells _ j (by have := Z0.out; omega)).trans (V0.out j hlt))
        have CS := Lib.hid (fun X (hX : New wr X) => ((HN.out.trans hX).cells _ j Z0.out).trans (S0.out j hlt))
        obtain ⟨b0, b1⟩ := HVS.out j hlt
        rw [EVS.out] at b0 b1
        have YES := Lib.hid (fun h => sws_yes (vs := vs) (j := j) h)
        have NO := Lib.hid (fun h => sws_no (vs := vs) (j := j) h)
        have ND_ := nm_len j
        generalize vs.getD j 0 = x at *
        generalize nm j = nmj at *
        have g1 := CV.out wr (New.refl _)
        by_cases hx : x = 0
        · have NX := Lib.hid (NO.out hx)
          subst hx
          go_wp2
          go_roundw
          case rel => exact ⟨j + 1, by omega, by go_num, by rw [NX.out, HTT.out], HN⟩
          case measure => simp [intOf]; omega
        · have NX := Lib.hid (YES.out hx)
          obtain ⟨y, rfl⟩ := Int.eq_ofNat_of_zero_le b0
          have yp : (0 : Int) < (y : Int) := by omega
          have DY := Lib.hid (fun W => decimalN_any y (by omega) W)
          have LY := dd_len (v := (y : Int)) ⟨b0, b1⟩
          rw [Int.toNat_natCast] at NX LY
          generalize Lib.decDigits y = D at *
          have f1 : ¬ 9223372036854775807 < T.length + 1 := by omega
          have f2 : ¬ 9223372036854775807 < T.length + 1 + nmj.length := by omega
          have f3 : ¬ 9223372036854775807 < T.length + 1 + nmj.length + 1 := by omega
          have f4 : ¬ 9223372036854775807 < T.length + 1 + nmj.length + 1 + D.length := by omega
          have ND := Lib.hid (New.refl wr).drew
          clear hx
          go_wp2
          clear g1
          refine wp_region_noPanic ?_
          refine wp_region_held_drew (S := fun w' => w'.cell? ⟨w.heap.size + 1 + 1, j, none⟩ = some (.int .i64 (y : Int)) ∧ w'.cell? ⟨w.heap.size + 1 + 1 + 1, j, none⟩ = some (str nmj)) (by kernel_rfl) (⟨CV.out _ ND.out, CS.out _ ND.out⟩) (fun hHeld => ?_)
          generalize wr.drew = Vd at ND hHeld ⊢
          refine wpAnyH_take (i := 0) (oi := _) (v := ?_) rfl (by kernel_rfl) (by kernel_rfl) (by kernel_rfl) (fun _ _ _ h => h) (Or.inl ⟨by kernel_rfl, ?_⟩) (by assumption) ?_
          rotate_left; (intro w' hSw; (try dsimp only at hSw); go_split_ands; go_simp; (try with_reducible rfl))
          try dsimp only [Act.put]
          refine wpAnyH_take (i := 1) (oi := _) (v := ?_) rfl (by kernel_rfl) (by kernel_rfl) (by kernel_rfl) (fun _ _ _ h => h) (Or.inl ⟨by kernel_rfl, ?_⟩) (by assumption) ?_
          rotate_left; (intro w' hSw; (try dsimp only at hSw); go_split_ands; go_simp; (try with_reducible rfl))
          try dsimp only [Act.put]
          refine wpAnyH_take (i := 2) (oi := _) (v := ?_) rfl (by kernel_rfl) (by kernel_rfl) (by kernel_rfl) (fun _ _ _ h => h) (Or.inl ⟨by kernel_rfl, ?_⟩) (by assumption) ?_
          rotate_left; (intro w' hSw; (try dsimp only at hSw); go_split_ands; go_simp; (try with_reducible rfl))
          try dsimp only [Act.put]
          refine wpAnyH_take (i := 3) (oi := _) (v := ?_) rfl (by kernel_rfl) (by kernel_rfl) (by kernel_rfl) (fun _ _ _ h => h) (Or.inl ⟨by kernel_rfl, ?_⟩) (by assumption) ?_
          rotate_left; (intro w' hSw; (try dsimp only at hSw); go_split_ands; go_simp; (try with_reducible rfl))
          try dsimp only [Act.put]
          refine wpAnyH_take (i := 4) (oi := _) (v := ?_) rfl (by kernel_rfl) (by kernel_rfl) (by kernel_rfl) (fun _ _ _ h => h) (Or.inl ⟨by kernel_rfl, ?_⟩) (by assumption) ?_
          rotate_left; (intro w' hSw; (try dsimp only at hSw); go_split_ands; go_simp; (try with_reducible rfl))
          try dsimp only [Act.put]
          refine wpAnyH_take (i := 5) (oi := _) (v := ?_) rfl (by kernel_rfl) (by kernel_rfl) (by kernel_rfl) (fun _ _ _ h => h) (Or.inl ⟨by kernel_rfl, ?_⟩) (by assumption) ?_
          rotate_left; (intro w' hSw; (try dsimp only at hSw); go_split_ands; go_simp; (try with_reducible rfl))
          try dsimp only [Act.put]
          refine wpAnyH_take (i := 6) (oi := _) (v := ?_) rfl (by kernel_rfl) (by kernel_rfl) (by kernel_rfl) (fun _ _ _ h => h) (Or.inl ⟨by kernel_rfl, ?_⟩) (by assumption) ?_
          rotate_left; (intro w' hSw; (try dsimp only at hSw); go_split_ands; go_simp; (try with_reducible rfl))
          try dsimp only [Act.put]
          refine wpAnyH_take (i := 7) (oi := _) (v := ?_) rfl (by kernel_rfl) (by kernel_rfl) (by kernel_rfl) (fun _ _ _ h => h) (Or.inl ⟨by kernel_rfl, ?_⟩) (by assumption) ?_
          rotate_left; (intro w' hSw; (try dsimp only at hSw); go_split_ands; go_simp; (try with_reducible rfl))
          try dsimp only [Act.put]
          refine wpAnyH_take (i := 8) (oi := _) (v := ?_) rfl (by kernel_rfl) (by kernel_rfl) (by kernel_rfl) (fun _ _ _ h => h) (Or.inl ⟨by kernel_rfl, ?_⟩) (by assumption) ?_
          rotate_left; (intro w' hSw; (try dsimp only at hSw); go_split_ands; go_simp; (try with_reducible rfl))
          try dsimp only [Act.put]
          refine wpAnyH_take (i := 9) (oi := _) (v := ?_) rfl (by kernel_rfl) (by kernel_rfl) (by kernel_rfl) (fun _ _ _ h => h) (Or.inl ⟨by kernel_rfl, ?_⟩) (by assumption) ?_
          rotate_left; (intro w' hSw; (try dsimp only at hSw); go_split_ands; go_simp; (try with_reducible rfl))
          try dsimp only [Act.put]
          refine wpAnyH_take (i := 10) (oi := _) (v := ?_) rfl (by kernel_rfl) (by kernel_rfl) (by kernel_rfl) (fun _ _ _ h => h) (Or.inl ⟨by kernel_rfl, ?_⟩) (by assumption) ?_
          rotate_left; (intro w' hSw; (try dsimp only at hSw); go_split_ands; go_simp; (try with_reducible rfl))
          try dsimp only [Act.put]
          refine wpAnyH_take (i := 11) (oi := _) (v := ?_) rfl (by kernel_rfl) (by kernel_rfl) (by kernel_rfl) (fun _ _ _ h => h) (Or.inl ⟨by kernel_rfl, ?_⟩) (by assumption) ?_
          rotate_left; (intro w' hSw; (try dsimp only at hSw); go_split_ands; go_simp; (try with_reducible rfl))
          try dsimp only [Act.put]
          refine wpAnyH_ready (rs := [12]) (by kernel_rfl) (by simp) ?_
          refine AllReadyH.cons (o := _) rfl (fun K hK => ?_) AllReadyH.nil
          go_simp
          go_at_call 59
          refine (DY.out _).mono ?_
          rintro e wc ⟨rfl, Nc⟩
          have NF := Lib.hid (ND.out.trans Nc)
          clear Nc
          go_wp2_with fail
          refine hK.out _ _ (⟨CV.out _ NF.out, CS.out _ NF.out⟩) (fun hH12 => ?_)
          clear hK K
          try dsimp only [Act.put]
          refine wpAnyH_take (i := 13) (oi := _) (v := ?_) rfl (by kernel_rfl) (by kernel_rfl) (by kernel_rfl) (fun _ _ _ h => h) (Or.inl ⟨by kernel_rfl, ?_⟩) (by assumption) ?_
          rotate_left; (intro w' hSw; (try dsimp only at hSw); go_split_ands; go_simp; (try with_reducible rfl))
          try dsimp only [Act.put]
          refine wpAnyH_ready (rs := [14]) (by kernel_rfl) (by simp) ?_
          refine AllReadyH.cons (o := _) rfl (fun K hK => ?_) AllReadyH.nil
          go_simp
          refine hK.out _ _ (⟨CV.out _ NF.out, CS.out _ NF.out⟩) (fun hH14 => ?_)
          clear hK K
          try dsimp only [Act.put]
          refine wpAnyH_done (by kernel_rfl) ?_ _
          refine NoPanic.normal ?_
          go_simp
          go_wp2
          go_roundw
          case rel =>
            (repeat apply Exists.intro)
            refine ⟨⟨j + 1, by omega, ?_, ?_, ?_⟩, rfl⟩
            · go_num
            · rw [NX.out, ← List.append_assoc, HTT.out]; simp [str, ByteArray.mk_append_mk]
            · exact Lib.hid (HN.out.trans NF.out)
          case measure => simp [intOf]; omega
      · obtain rfl : j = 5 := by omega
        go_wp2
        go_ret
        exact ⟨by rw [← HTT.out, ← EVS.out]; rfl, W0.out.trans HN.out⟩
  · have EH : Hid (hdT 3 (u : Int) (v : Int) = kn 3) := Lib.hid rfl
    clear hv hw hh hvs
    go_enter Tryz.func32, Tryz.ntmps32
    go_wp2
    have W0 : New w ((((w.alloc (.cells #[.int .i64 p, .int .i64 3, .int .i64 (u : Int), .int .i64 (v : Int), .int .i64 a0, .int .i64 a1, .int .i64 a2, .int .i64 a3, .int .i64 a4] 38)).alloc (.cells #[.string { data := #[108, 101, 97, 102] }, .string { data := #[98, 108, 111, 99, 107] }, .string { data := #[114, 111, 119] }, .string { data := #[99, 111, 108, 117, 109, 110] }] 9)).alloc (.cells #[.int .i64 a0, .int .i64 a1, .int .i64 a2, .int .i64 a3, .int .i64 a4] 3)).alloc (.cells #[.string { data := #[112, 97, 100] }, .string { data := #[103, 97, 112] }, .string { data := #[103, 114, 111, 119] }, .string { data := #[115, 104, 114, 105, 110, 107] }, .string { data := #[106, 117, 115, 116, 105, 102, 121] }] 9)) := by (repeat (first | exact New.refl _ | assumption | refine New.alloc ?_ _ | refine New.drew ?_ | refine New.drewN ?_ _ | refine New.setCell ?_ (by first | omega | (simp; omega) | (simp; done)) _ | refine New.trans ?_ (by assumption)))
    have V0 : ∀ j, j < 5 → (((((w.alloc (.cells #[.int .i64 p, .int .i64 3, .int .i64 (u : Int), .int .i64 (v : Int), .int .i64 a0, .int .i64 a1, .int .i64 a2, .int .i64 a3, .int .i64 a4] 38)).alloc (.cells #[.string { data := #[108, 101, 97, 102] }, .string { data := #[98, 108, 111, 99, 107] }, .string { data := #[114, 111, 119] }, .string { data := #[99, 111, 108, 117, 109, 110] }] 9)).alloc (.cells #[.int .i64 a0, .int .i64 a1, .int .i64 a2, .int .i64 a3, .int .i64 a4] 3)).alloc (.cells #[.string { data := #[112, 97, 100] }, .string { data := #[103, 97, 112] }, .string { data := #[103, 114, 111, 119] }, .string { data := #[115, 104, 114, 105, 110, 107] }, .string { data := #[106, 117, 115, 116, 105, 102, 121] }] 9))).cell? ⟨w.heap.size + 1 + 1, j, none⟩ = some (.int .i64 (vs.getD j 0)) := fun j hj => by
      rw [← EVS.out]
      rcases (show j = 0 ∨ j = 1 ∨ j = 2 ∨ j = 3 ∨ j = 4 by omega) with rfl | rfl | rfl | rfl | rfl <;> simp [go_sem]
    have S0 : ∀ j, j < 5 → (((((w.alloc (.cells #[.int .i64 p, .int .i64 3, .int .i64 (u : Int), .int .i64 (v : Int), .int .i64 a0, .int .i64 a1, .int .i64 a2, .int .i64 a3, .int .i64 a4] 38)).alloc (.cells #[.string { data := #[108, 101, 97, 102] }, .string { data := #[98, 108, 111, 99, 107] }, .string { data := #[114, 111, 119] }, .string { data := #[99, 111, 108, 117, 109, 110] }] 9)).alloc (.cells #[.int .i64 a0, .int .i64 a1, .int .i64 a2, .int .i64 a3, .int .i64 a4] 3)).alloc (.cells #[.string { data := #[112, 97, 100] }, .string { data := #[103, 97, 112] }, .string { data := #[103, 114, 111, 119] }, .string { data := #[115, 104, 114, 105, 110, 107] }, .string { data := #[106, 117, 115, 116, 105, 102, 121] }] 9))).cell? ⟨w.heap.size + 1 + 1 + 1, j, none⟩ = some (str (nm j)) := fun j hj => by
      rcases (show j = 0 ∨ j = 1 ∨ j = 2 ∨ j = 3 ∨ j = 4 by omega) with rfl | rfl | rfl | rfl | rfl <;> simp [go_sem, nm]
    have Z0 : w.heap.size + 1 + 1 + 1 < (((((w.alloc (.cells #[.int .i64 p, .int .i64 3, .int .i64 (u : Int), .int .i64 (v : Int), .int .i64 a0, .int .i64 a1, .int .i64 a2, .int .i64 a3, .int .i64 a4] 38)).alloc (.cells #[.string { data := #[108, 101, 97, 102] }, .string { data := #[98, 108, 111, 99, 107] }, .string { data := #[114, 111, 119] }, .string { data := #[99, 111, 108, 117, 109, 110] }] 9)).alloc (.cells #[.int .i64 a0, .int .i64 a1, .int .i64 a2, .int .i64 a3, .int .i64 a4] 3)).alloc (.cells #[.string { data := #[112, 97, 100] }, .string { data := #[103, 97, 112] }, .string { data := #[103, 114, 111, 119] }, .string { data := #[115, 104, 114, 105, 110, 107] }, .string { data := #[106, 117, 115, 116, 105, 102, 121] }] 9))).heap.size := by simp
    have W0 := Lib.hid W0; have V0 := Lib.hid V0; have S0 := Lib.hid S0; have Z0 := Lib.hid Z0
    generalize hWB : ((((w.alloc (.cells #[.int .i64 p, .int .i64 3, .int .i64 (u : Int), .int .i64 (v : Int), .int .i64 a0, .int .i64 a1, .int .i64 a2, .int .i64 a3, .int .i64 a4] 38)).alloc (.cells #[.string { data := #[108, 101, 97, 102] }, .string { data := #[98, 108, 111, 99, 107] }, .string { data := #[114, 111, 119] }, .string { data := #[99, 111, 108, 117, 109, 110] }] 9)).alloc (.cells #[.int .i64 a0, .int .i64 a1, .int .i64 a2, .int .i64 a3, .int .i64 a4] 3)).alloc (.cells #[.string { data := #[112, 97, 100] }, .string { data := #[103, 97, 112] }, .string { data := #[103, 114, 111, 119] }, .string { data := #[115, 104, 114, 105, 110, 107] }, .string { data := #[106, 117, 115, 116, 105, 102, 121] }] 9)) = WB at *
    replace hWB := Lib.hid hWB
    go_loopw [3, 6] (fun t i wr => ∃ j : Nat, j ≤ 5 ∧ i = .int .i64 j ∧ t = str (hdT 3 (u : Int) (v : Int) ++ sws vs j) ∧ Hid (New WB wr)) (fun _ i _ => 5 - (intOf i).toNat)
    case atStart => exact ⟨0, Nat.zero_le _, rfl, by rw [EH.out]; rfl, Lib.hid (New.refl _)⟩
    case round =>
      obtain ⟨j, hj, rfl, rfl, HN⟩ := hrel
      have j0 : (0 : Int) ≤ (j : Int) := by omega
      have TL := SL.out j hj
      rw [EVS.out] at TL
      obtain ⟨T, hT⟩ : ∃ T, hdT 3 (u : Int) (v : Int) ++ sws vs j = T := ⟨_, rfl⟩
      have TL2 : T.length ≤ 100 := by have := HT.out 3; rw [← hT, List.length_append]; omega
      rw [hT]
      have HTT := Lib.hid hT
      clear hT TL
      by_cases hlt : j < 5
      · have j1 : (j : Int) < 5 := by omega
        have CV := Lib.hid (fun X (hX : New wr X) => ((HN.out.trans hX).cells _ j (by have := Z0.out; omega)).trans (V0.out j hlt))
        have CS := Lib.hid (fun X (hX : New wr X) => ((HN.out.trans hX).cells _ j Z0.out).trans (S0.out j hlt))
        obtain ⟨b0, b1⟩ := HVS.out j hlt
        rw [EVS.out] at b0 b1
        have YES := Lib.hid (fun h => sws_yes (vs := vs) (j := j) h)
        have NO := Lib.hid (fun h => sws_no (vs := vs) (j := j) h)
        have ND_ := nm_len j
        generalize vs.getD j 0 = x at *
        generalize nm j = nmj at *
        have g1 := CV.out wr (New.refl _)
        by_cases hx : x = 0
        · have NX := Lib.hid (NO.out hx)
          subst hx
          go_wp2
          go_roundw
          case rel => exact ⟨j + 1, by omega, by go_num, by rw [NX.out, HTT.out], HN⟩
          case measure => simp [intOf]; omega
        · have NX := Lib.hid (YES.out hx)
          obtain ⟨y, rfl⟩ := Int.eq_ofNat_of_zero_le b0
          have yp : (0 : Int) < (y : Int) := by omega
          have DY := Lib.hid (fun W => decimalN_any y (by omega) W)
          have LY := dd_len (v := (y : Int)) ⟨b0, b1⟩
          rw [Int.toNat_natCast] at NX LY
          generalize Lib.decDigits y = D at *
          have f1 : ¬ 9223372036854775807 < T.length + 1 := by omega
          have f2 : ¬ 9223372036854775807 < T.length + 1 + nmj.length := by omega
          have f3 : ¬ 9223372036854775807 < T.length + 1 + nmj.length + 1 := by omega
          have f4 : ¬ 9223372036854775807 < T.length + 1 + nmj.length + 1 + D.length := by omega
          have ND := Lib.hid (New.refl wr).drew
          clear hx
          go_wp2
          clear g1
          refine wp_region_noPanic ?_
          refine wp_region_held_drew (S := fun w' => w'.cell? ⟨w.heap.size + 1 + 1, j, none⟩ = some (.int .i64 (y : Int)) ∧ w'.cell? ⟨w.heap.size + 1 + 1 + 1, j, none⟩ = some (str nmj)) (by kernel_rfl) (⟨CV.out _ ND.out, CS.out _ ND.out⟩) (fun hHeld => ?_)
          generalize wr.drew = Vd at ND hHeld ⊢
          refine wpAnyH_take (i := 0) (oi := _) (v := ?_) rfl (by kernel_rfl) (by kernel_rfl) (by kernel_rfl) (fun _ _ _ h => h) (Or.inl ⟨by kernel_rfl, ?_⟩) (by assumption) ?_
          rotate_left; (intro w' hSw; (try dsimp only at hSw); go_split_ands; go_simp; (try with_reducible rfl))
          try dsimp only [Act.put]
          refine wpAnyH_take (i := 1) (oi := _) (v := ?_) rfl (by kernel_rfl) (by kernel_rfl) (by kernel_rfl) (fun _ _ _ h => h) (Or.inl ⟨by kernel_rfl, ?_⟩) (by assumption) ?_
          rotate_left; (intro w' hSw; (try dsimp only at hSw); go_split_ands; go_simp; (try with_reducible rfl))
          try dsimp only [Act.put]
          refine wpAnyH_take (i := 2) (oi := _) (v := ?_) rfl (by kernel_rfl) (by kernel_rfl) (by kernel_rfl) (fun _ _ _ h => h) (Or.inl ⟨by kernel_rfl, ?_⟩) (by assumption) ?_
          rotate_left; (intro w' hSw; (try dsimp only at hSw); go_split_ands; go_simp; (try with_reducible rfl))
          try dsimp only [Act.put]
          refine wpAnyH_take (i := 3) (oi := _) (v := ?_) rfl (by kernel_rfl) (by kernel_rfl) (by kernel_rfl) (fun _ _ _ h => h) (Or.inl ⟨by kernel_rfl, ?_⟩) (by assumption) ?_
          rotate_left; (intro w' hSw; (try dsimp only at hSw); go_split_ands; go_simp; (try with_reducible rfl))
          try dsimp only [Act.put]
          refine wpAnyH_take (i := 4) (oi := _) (v := ?_) rfl (by kernel_rfl) (by kernel_rfl) (by kernel_rfl) (fun _ _ _ h => h) (Or.inl ⟨by kernel_rfl, ?_⟩) (by assumption) ?_
          rotate_left; (intro w' hSw; (try dsimp only at hSw); go_split_ands; go_simp; (try with_reducible rfl))
          try dsimp only [Act.put]
          refine wpAnyH_take (i := 5) (oi := _) (v := ?_) rfl (by kernel_rfl) (by kernel_rfl) (by kernel_rfl) (fun _ _ _ h => h) (Or.inl ⟨by kernel_rfl, ?_⟩) (by assumption) ?_
          rotate_left; (intro w' hSw; (try dsimp only at hSw); go_split_ands; go_simp; (try with_reducible rfl))
          try dsimp only [Act.put]
          refine wpAnyH_take (i := 6) (oi := _) (v := ?_) rfl (by kernel_rfl) (by kernel_rfl) (by kernel_rfl) (fun _ _ _ h => h) (Or.inl ⟨by kernel_rfl, ?_⟩) (by assumption) ?_
          rotate_left; (intro w' hSw; (try dsimp only at hSw); go_split_ands; go_simp; (try with_reducible rfl))
          try dsimp only [Act.put]
          refine wpAnyH_take (i := 7) (oi := _) (v := ?_) rfl (by kernel_rfl) (by kernel_rfl) (by kernel_rfl) (fun _ _ _ h => h) (Or.inl ⟨by kernel_rfl, ?_⟩) (by assumption) ?_
          rotate_left; (intro w' hSw; (try dsimp only at hSw); go_split_ands; go_simp; (try with_reducible rfl))
          try dsimp only [Act.put]
          refine wpAnyH_take (i := 8) (oi := _) (v := ?_) rfl (by kernel_rfl) (by kernel_rfl) (by kernel_rfl) (fun _ _ _ h => h) (Or.inl ⟨by kernel_rfl, ?_⟩) (by assumption) ?_
          rotate_left; (intro w' hSw; (try dsimp only at hSw); go_split_ands; go_simp; (try with_reducible rfl))
          try dsimp only [Act.put]
          refine wpAnyH_take (i := 9) (oi := _) (v := ?_) rfl (by kernel_rfl) (by kernel_rfl) (by kernel_rfl) (fun _ _ _ h => h) (Or.inl ⟨by kernel_rfl, ?_⟩) (by assumption) ?_
          rotate_left; (intro w' hSw; (try dsimp only at hSw); go_split_ands; go_simp; (try with_reducible rfl))
          try dsimp only [Act.put]
          refine wpAnyH_take (i := 10) (oi := _) (v := ?_) rfl (by kernel_rfl) (by kernel_rfl) (by kernel_rfl) (fun _ _ _ h => h) (Or.inl ⟨by kernel_rfl, ?_⟩) (by assumption) ?_
          rotate_left; (intro w' hSw; (try dsimp only at hSw); go_split_ands; go_simp; (try with_reducible rfl))
          try dsimp only [Act.put]
          refine wpAnyH_take (i := 11) (oi := _) (v := ?_) rfl (by kernel_rfl) (by kernel_rfl) (by kernel_rfl) (fun _ _ _ h => h) (Or.inl ⟨by kernel_rfl, ?_⟩) (by assumption) ?_
          rotate_left; (intro w' hSw; (try dsimp only at hSw); go_split_ands; go_simp; (try with_reducible rfl))
          try dsimp only [Act.put]
          refine wpAnyH_ready (rs := [12]) (by kernel_rfl) (by simp) ?_
          refine AllReadyH.cons (o := _) rfl (fun K hK => ?_) AllReadyH.nil
          go_simp
          go_at_call 59
          refine (DY.out _).mono ?_
          rintro e wc ⟨rfl, Nc⟩
          have NF := Lib.hid (ND.out.trans Nc)
          clear Nc
          go_wp2_with fail
          refine hK.out _ _ (⟨CV.out _ NF.out, CS.out _ NF.out⟩) (fun hH12 => ?_)
          clear hK K
          try dsimp only [Act.put]
          refine wpAnyH_take (i := 13) (oi := _) (v := ?_) rfl (by kernel_rfl) (by kernel_rfl) (by kernel_rfl) (fun _ _ _ h => h) (Or.inl ⟨by kernel_rfl, ?_⟩) (by assumption) ?_
          rotate_left; (intro w' hSw; (try dsimp only at hSw); go_split_ands; go_simp; (try with_reducible rfl))
          try dsimp only [Act.put]
          refine wpAnyH_ready (rs := [14]) (by kernel_rfl) (by simp) ?_
          refine AllReadyH.cons (o := _) rfl (fun K hK => ?_) AllReadyH.nil
          go_simp
          refine hK.out _ _ (⟨CV.out _ NF.out, CS.out _ NF.out⟩) (fun hH14 => ?_)
          clear hK K
          try dsimp only [Act.put]
          refine wpAnyH_done (by kernel_rfl) ?_ _
          refine NoPanic.normal ?_
          go_simp
          go_wp2
          go_roundw
          case rel =>
            (repeat apply Exists.intro)
            refine ⟨⟨j + 1, by omega, ?_, ?_, ?_⟩, rfl⟩
            · go_num
            · rw [NX.out, ← List.append_assoc, HTT.out]; simp [str, ByteArray.mk_append_mk]
            · exact Lib.hid (HN.out.trans NF.out)
          case measure => simp [intOf]; omega
      · obtain rfl : j = 5 := by omega
        go_wp2
        go_ret
        exact ⟨by rw [← HTT.out, ← EVS.out]; rfl, W0.out.trans HN.out⟩
end Go.Proofs.YtffggmjhaaehlaaGreatDoor
