/- The program's text of a box. Condition: the box is valid; strconv.Itoa and strings.Join answer as they should; the words for the kinds lie where they lie. -/
import Derived.Test.YtffggmjhaaehlaaGreatDoorTxtJ
import Derived.Test.YtffggmjhaaehlaaGreatDoorTxtS
namespace Go.Proofs.YtffggmjhaaehlaaGreatDoor
open Go.RowKit

/-- The words for the kinds lie in the first block. -/
def KnC (w : World) : Prop := 0 < w.heap.size ∧ ∀ j, j < 4 → w.cell? ⟨0, j, none⟩ = some (str (kn j))
theorem KnC.new {w w' : World} (h : KnC w) (hN : New w w') : KnC w' := ⟨Nat.lt_of_lt_of_le h.1 hN.le, fun j hj => (hN.cells 0 j h.1).trans (h.2 j hj)⟩
set_option maxRecDepth 100000 in
set_option maxHeartbeats 2000000 in
theorem boxText_any (k : Nat) (hk : k ≤ 3) (p wd ht a0 a1 a2 a3 a4 : Int) (hw : 0 ≤ wd ∧ wd ≤ 100) (hh : 0 ≤ ht ∧ ht ≤ 100) (hv : ∀ i, i < 5 → 0 ≤ [a0, a1, a2, a3, a4].getD i 0 ∧ [a0, a1, a2, a3, a4].getD i 0 ≤ 100) (w : World) (hI : ItoaC w) (hJ : JoinC) (hK : KnC w) :
    Calls Tryz.prog 29 #[.agg #[.int .i64 p, .int .i64 (k : Int), .int .i64 wd, .int .i64 ht, .int .i64 a0, .int .i64 a1, .int .i64 a2, .int .i64 a3, .int .i64 a4]] w fun e w' => e = .returned (str (boxTx k wd ht [a0, a1, a2, a3, a4])) ∧ New w w' := by
  have II := Lib.hid hI
  have HJ := Lib.hid hJ
  have hz := hK.1
  have g0 := hK.2 k (by omega)
  have HT := Lib.hid (hdT_len hw hh k)
  have SL := Lib.hid (fun j (hj : j ≤ 5) => sws_len hv j hj)
  have HVS := Lib.hid hv
  have KL := kn_len k
  obtain ⟨vs, hvs⟩ : ∃ vs, [a0, a1, a2, a3, a4] = vs := ⟨_, rfl⟩
  have EVS := Lib.hid hvs
  clear hI hJ hK hv hvs
  rcases Nat.eq_zero_or_pos k with rfl | kp
  · obtain ⟨u, rfl, hu⟩ := nat_toNat hw.1
    obtain ⟨v, rfl, hv'⟩ := nat_toNat hh.1
    have EK : hdT 0 (u : Int) (v : Int) = kn 0 ++ ([32] ++ ((Lib.decDigits u ++ [32]) ++ Lib.decDigits v)) := by unfold hdT; rw [if_pos rfl, hu, hv']; simp
    have EJ : Lib.join ((List.range 2).map fun i => Lib.decDigits ((fun i => if i = 0 then u else v) i)) [32] = (Lib.decDigits u ++ [32]) ++ Lib.decDigits v := by simp [Lib.join, List.range, List.range.loop, List.intercalate]
    have KL := HT.out
    have LR : ((Lib.decDigits u ++ [32]) ++ Lib.decDigits v).length ≤ 7 := by
      have := dd_len hw
      have := dd_len hh
      rw [hu] at *
      rw [hv'] at *
      simp only [List.length_append, List.length_singleton]
      omega
    obtain ⟨K, hK⟩ : ∃ K, hdT 0 (u : Int) (v : Int) = K := ⟨_, rfl⟩
    rw [hK] at KL EK
    have EH := Lib.hid hK
    generalize hR : (Lib.decDigits u ++ [32]) ++ Lib.decDigits v = R at *
    have JN : ∀ (g : Nat) (W : World), ItoaC W → g < W.heap.size → W.cell? ⟨g, 0, none⟩ = some (.int .i64 (u : Int)) → W.cell? ⟨g, 1, none⟩ = some (.int .i64 (v : Int)) → Calls Tryz.prog 56 #[.slice (some ⟨g, 0, none⟩) 2 2] W fun e w' => e = .returned (str R) ∧ New W w' := fun g W h1 h2 h3 h4 => by
      have h := joinNumbers_any g 2 (fun i => if i = 0 then u else v) (by omega) (fun i _ => by split <;> omega) W h1 HJ.out h2 (fun i hi => by rcases (show i = 0 ∨ i = 1 by omega) with rfl | rfl <;> first | exact h3 | exact h4) (by rw [EJ]; omega)
      rw [EJ] at h
      exact h
    have JN := Lib.hid JN
    have fa : ¬ 9223372036854775807 < 1 + R.length := by omega
    have fb : ¬ 9223372036854775807 < 4 + (1 + R.length) := by omega
    go_enter Tryz.func29, Tryz.ntmps29
    go_wp2_with fail
    have NB : New w ((w.alloc (.cells #[.int .i64 p, .int .i64 0, .int .i64 (u : Int), .int .i64 (v : Int), .int .i64 a0, .int .i64 a1, .int .i64 a2, .int .i64 a3, .int .i64 a4] 38)).alloc (.cells #[.int .i64 (u : Int), .int .i64 (v : Int)] 3)) := by (repeat (first | exact New.refl _ | assumption | refine New.alloc ?_ _ | refine New.drew ?_ | refine New.drewN ?_ _ | refine New.setCell ?_ (by first | omega | (simp; omega) | (simp; done)) _ | refine New.trans ?_ (by assumption)))
    have BC0 : ∀ j, j < 5 → (((w.alloc (.cells #[.int .i64 p, .int .i64 0, .int .i64 (u : Int), .int .i64 (v : Int), .int .i64 a0, .int .i64 a1, .int .i64 a2, .int .i64 a3, .int .i64 a4] 38)).alloc (.cells #[.int .i64 (u : Int), .int .i64 (v : Int)] 3))).cell? ⟨w.heap.size, 4 + j, none⟩ = some (.int .i64 (vs.getD j 0)) := fun j hj => by
      rw [← EVS.out]
      rcases (show j = 0 ∨ j = 1 ∨ j = 2 ∨ j = 3 ∨ j = 4 by omega) with rfl | rfl | rfl | rfl | rfl <;> simp [go_sem]
    have BZ0 : w.heap.size < (((w.alloc (.cells #[.int .i64 p, .int .i64 0, .int .i64 (u : Int), .int .i64 (v : Int), .int .i64 a0, .int .i64 a1, .int .i64 a2, .int .i64 a3, .int .i64 a4] 38)).alloc (.cells #[.int .i64 (u : Int), .int .i64 (v : Int)] 3))).heap.size := by simp; omega
    refine (JN.out _ _ (ItoaC.new II.out NB) (by simp) (by simp [go_sem]) (by simp [go_sem])).mono ?_
    generalize ((w.alloc (.cells #[.int .i64 p, .int .i64 0, .int .i64 (u : Int), .int .i64 (v : Int), .int .i64 a0, .int .i64 a1, .int .i64 a2, .int .i64 a3, .int .i64 a4] 38)).alloc (.cells #[.int .i64 (u : Int), .int .i64 (v : Int)] 3)) = W0 at *
    rintro e W1 ⟨rfl, NJ⟩
    have N1 := NB.trans NJ
    have BC := fun j hj => (NJ.cells _ (4 + j) BZ0).trans (BC0 j hj)
    have BZ := Nat.lt_of_lt_of_le BZ0 NJ.le
    clear BC0 BZ0 NB NJ
    go_wp2_with fail
    obtain ⟨gb, hgb⟩ : ∃ g, w.heap.size = g := ⟨_, rfl⟩
    rw [hgb] at BC BZ ⊢
    refine (styleWords_any gb _).mono ?_
    rintro e w2 ⟨f, rfl, N2, f0, f1, FS⟩
    have NN := Lib.hid (N1.trans N2)
    have BC := Lib.hid (fun j hj => (N2.cells gb (4 + j) BZ).trans (BC j hj))
    have BZ := Lib.hid (Nat.lt_of_lt_of_le BZ N2.le)
    have FS := Lib.hid FS
    clear N1 N2
    go_wp2
    go_loopw [3, 24] (fun t i wr => ∃ j : Nat, j ≤ 5 ∧ i = .int .i64 j ∧ t = str (K ++ sws vs j) ∧ Hid (New w2 wr)) (fun _ i _ => 5 - (intOf i).toNat)
    case atStart => exact ⟨0, Nat.zero_le _, rfl, by rw [EK]; simp [str, sws, kn, ByteArray.mk_append_mk], Lib.hid (New.refl _)⟩
    case round =>
      obtain ⟨j, hj, rfl, rfl, HN⟩ := hrel
      have j0 : (0 : Int) ≤ (j : Int) := by omega
      have TL := SL.out j hj
      rw [EVS.out] at TL
      obtain ⟨T, hT⟩ : ∃ T, K ++ sws vs j = T := ⟨_, rfl⟩
      have TL2 : T.length ≤ 100 := by rw [← hT, List.length_append]; omega
      rw [hT]
      have HTT := Lib.hid hT
      clear hT TL
      by_cases hlt : j < 5
      · have j1 : (j : Int) < 5 := by omega
        obtain ⟨b0, b1⟩ := HVS.out j hlt
        rw [EVS.out] at b0 b1
        have YES := Lib.hid (fun h => sws_yes (vs := vs) (j := j) h)
        have NO := Lib.hid (fun h => sws_no (vs := vs) (j := j) h)
        have ND_ := nm_len j
        have g1 := (HN.out.cells f (j * 2) f1).trans (FS.out j hlt).1
        have g2 := (HN.out.cells f (j * 2 + 1) f1).trans (FS.out j hlt).2
        have g3 := (HN.out.cells gb (4 + j) BZ.out).trans (BC.out j hlt)
        have z1 : f < wr.heap.size := Nat.lt_of_lt_of_le f1 HN.out.le
        have z2 : gb < wr.heap.size := Nat.lt_of_lt_of_le BZ.out HN.out.le
        generalize vs.getD j 0 = x at *
        generalize nm j = nmj at *
        by_cases hx : x = 0
        · have NX := Lib.hid (NO.out hx)
          subst hx
          go_wp2
          go_roundw
          case rel =>
            refine ⟨j + 1, by omega, ?_, ?_, ?_⟩
            · go_num
            · rw [NX.out, HTT.out]
            · exact Lib.hid (HN.out.alloc _)
          case measure => simp [intOf]; omega
        · have NX := Lib.hid (YES.out hx)
          obtain ⟨y, rfl⟩ := Int.eq_ofNat_of_zero_le b0
          have yn : ¬ (y : Int) = 0 := hx
          have yd : decide ((y : Int) = 0) = false := decide_eq_false hx
          have DY := Lib.hid (fun W hW => II.out y (by omega) W hW)
          have LY := dd_len (v := (y : Int)) ⟨b0, b1⟩
          rw [Int.toNat_natCast] at NX LY
          generalize Lib.decDigits y = D at *
          have f1' : ¬ 9223372036854775807 < 1 + nmj.length := by omega
          have f2' : ¬ 9223372036854775807 < 1 + nmj.length + 1 := by omega
          have f3' : ¬ 9223372036854775807 < 1 + nmj.length + 1 + D.length := by omega
          have f4' : ¬ 9223372036854775807 < T.length + (1 + nmj.length + 1 + D.length) := by omega
          clear hx
          go_wp2
          obtain ⟨gs, hgs⟩ : ∃ g, wr.heap.size = g := ⟨_, rfl⟩
          have NA : New wr (wr.alloc (.cells #[str nmj, .pointer (some ⟨gb, 4 + j, none⟩)] 94)) := (New.refl wr).alloc _
          have s1 : ((wr.alloc (.cells #[str nmj, .pointer (some ⟨gb, 4 + j, none⟩)] 94))).cell? ⟨gs, 0, none⟩ = some (str nmj) := by rw [← hgs]; simp [go_sem]
          have s2 : ((wr.alloc (.cells #[str nmj, .pointer (some ⟨gb, 4 + j, none⟩)] 94))).cell? ⟨gs, 1, none⟩ = some (.pointer (some ⟨gb, 4 + j, none⟩)) := by rw [← hgs]; simp [go_sem]
          have s3 := (NA.cells gb (4 + j) z2).trans g3
          have s4 : gs < ((wr.alloc (.cells #[str nmj, .pointer (some ⟨gb, 4 + j, none⟩)] 94))).heap.size := by rw [← hgs]; simp
          have s5 := Nat.lt_of_lt_of_le z2 NA.le
          rw [hgs]
          clear g1 g2 g3 z1 z2
          generalize (wr.alloc (.cells #[str nmj, .pointer (some ⟨gb, 4 + j, none⟩)] 94)) = WA at *
          have NW := Lib.hid ((NN.out.trans HN.out).trans NA)
          have NH := Lib.hid (HN.out.trans NA)
          have SX := Lib.hid (fun X (hX : New WA X) => (show (fun w' => w'.cell? ⟨gs, 0, none⟩ = some (str nmj) ∧ w'.cell? ⟨gs, 1, none⟩ = some (.pointer (some ⟨gb, 4 + j, none⟩)) ∧ w'.cell? ⟨gb, 4 + j, none⟩ = some (.int .i64 (y : Int))) X from ⟨(hX.cells gs 0 s4).trans s1, (hX.cells gs 1 s4).trans s2, (hX.cells gb (4 + j) s5).trans s3⟩))
          have ND := Lib.hid (New.refl WA).drew
          clear s1 s2 s3 s4 s5 NA
          refine wp_region_noPanic ?_
          refine wp_region_held_drew (S := fun w' => w'.cell? ⟨gs, 0, none⟩ = some (str nmj) ∧ w'.cell? ⟨gs, 1, none⟩ = some (.pointer (some ⟨gb, 4 + j, none⟩)) ∧ w'.cell? ⟨gb, 4 + j, none⟩ = some (.int .i64 (y : Int))) (by kernel_rfl) (SX.out WA (New.refl _)) (fun hHeld => ?_)
          generalize WA.drew = Vd at ND hHeld ⊢
          refine wpAnyH_take (i := 0) (oi := _) (v := ?_) rfl (by kernel_rfl) (by kernel_rfl) (by kernel_rfl) (fun _ _ _ h => h) (Or.inl ⟨by kernel_rfl, ?_⟩) (by assumption) ?_
          rotate_left; (intro w' hSw; (try dsimp only at hSw); go_split_ands; go_simp; (try with_reducible rfl))
          try dsimp only [Act.put]
          refine wpAnyH_take (i := 1) (oi := _) (v := ?_) rfl (by kernel_rfl) (by kernel_rfl) (by kernel_rfl) (fun _ _ _ h => h) (Or.inl ⟨by kernel_rfl, ?_⟩) (by assumption) ?_
          rotate_left; (intro w' hSw; (try dsimp only at hSw); go_split_ands; go_simp; (try with_reducible rfl))
          try dsimp only [Act.put]
          refine wpAnyH_take (i := 2) (oi := _) (v := ?_) rfl (by kernel_rfl) (by kernel_rfl) (by kernel_rfl) (fun _ _ _ h => h) (Or.inl ⟨by kernel_rfl, ?_⟩) (by assumption) ?_
          rotate_left; (intro w' hSw; (try dsimp only at hSw); go_split_ands; go_simp; (try with_reducible rfl))
          try dsimp only [Act.put]
          refine wpAnyH_take (i := 3) (oi := _) (v := ?_) rfl (by kernel_rfl) (by kernel_rfl) (by kernel_rfl) (fun _ _ _ h => h) (Or.inl ⟨by kernel_rfl, ?_⟩) (by assumption) ?_
          rotate_left; (intro w' hSw; (try dsimp only at hSw); go_split_ands; go_simp; (try with_reducible rfl))
          try dsimp only [Act.put]
          refine wpAnyH_take (i := 4) (oi := _) (v := ?_) rfl (by kernel_rfl) (by kernel_rfl) (by kernel_rfl) (fun _ _ _ h => h) (Or.inl ⟨by kernel_rfl, ?_⟩) (by assumption) ?_
          rotate_left; (intro w' hSw; (try dsimp only at hSw); go_split_ands; go_simp; (try with_reducible rfl))
          try dsimp only [Act.put]
          refine wpAnyH_take (i := 5) (oi := _) (v := ?_) rfl (by kernel_rfl) (by kernel_rfl) (by kernel_rfl) (fun _ _ _ h => h) (Or.inl ⟨by kernel_rfl, ?_⟩) (by assumption) ?_
          rotate_left; (intro w' hSw; (try dsimp only at hSw); go_split_ands; go_simp; (try with_reducible rfl))
          try dsimp only [Act.put]
          refine wpAnyH_take (i := 6) (oi := _) (v := ?_) rfl (by kernel_rfl) (by kernel_rfl) (by kernel_rfl) (fun _ _ _ h => h) (Or.inl ⟨by kernel_rfl, ?_⟩) (by assumption) ?_
          rotate_left; (intro w' hSw; (try dsimp only at hSw); go_split_ands; go_simp; (try with_reducible rfl))
          try dsimp only [Act.put]
          refine wpAnyH_take (i := 7) (oi := _) (v := ?_) rfl (by kernel_rfl) (by kernel_rfl) (by kernel_rfl) (fun _ _ _ h => h) (Or.inl ⟨by kernel_rfl, ?_⟩) (by assumption) ?_
          rotate_left; (intro w' hSw; (try dsimp only at hSw); go_split_ands; go_simp; (try with_reducible rfl))
          try dsimp only [Act.put]
          refine wpAnyH_take (i := 8) (oi := _) (v := ?_) rfl (by kernel_rfl) (by kernel_rfl) (by kernel_rfl) (fun _ _ _ h => h) (Or.inl ⟨by kernel_rfl, ?_⟩) (by assumption) ?_
          rotate_left; (intro w' hSw; (try dsimp only at hSw); go_split_ands; go_simp; (try with_reducible rfl))
          try dsimp only [Act.put]
          refine wpAnyH_ready (rs := [9]) (by kernel_rfl) (by simp) ?_
          refine AllReadyH.cons (o := _) rfl (fun K hK => ?_) AllReadyH.nil
          go_simp
          go_at_call 58
          refine (DY.out _ (NW.out.trans ND.out)).mono ?_
          rintro e wc ⟨rfl, Nc⟩
          have NF := Lib.hid (ND.out.trans Nc)
          clear Nc
          have Hwc := SX.out wc NF.out
          go_wp2_with fail
          refine hK.out _ _ (Hwc) (fun hH9 => ?_)
          clear hK K
          try dsimp only [Act.put]
          refine wpAnyH_take (i := 10) (oi := _) (v := ?_) rfl (by kernel_rfl) (by kernel_rfl) (by kernel_rfl) (fun _ _ _ h => h) (Or.inl ⟨by kernel_rfl, ?_⟩) (by assumption) ?_
          rotate_left; (intro w' hSw; (try dsimp only at hSw); go_split_ands; go_simp; (try with_reducible rfl))
          try dsimp only [Act.put]
          refine wpAnyH_take (i := 11) (oi := _) (v := ?_) rfl (by kernel_rfl) (by kernel_rfl) (by kernel_rfl) (fun _ _ _ h => h) (Or.inl ⟨by kernel_rfl, ?_⟩) (by assumption) ?_
          rotate_left; (intro w' hSw; (try dsimp only at hSw); go_split_ands; go_simp; (try with_reducible rfl))
          try dsimp only [Act.put]
          refine wpAnyH_ready (rs := [12]) (by kernel_rfl) (by simp) ?_
          refine AllReadyH.cons (o := _) rfl (fun K hK => ?_) AllReadyH.nil
          go_simp
          refine hK.out _ _ (Hwc) (fun hH12 => ?_)
          clear hK K
          try dsimp only [Act.put]
          refine wpAnyH_done (by kernel_rfl) ?_ _
          refine NoPanic.normal ?_
          go_simp
          go_wp2
          go_roundw
          case rel =>
            refine ⟨j + 1, by omega, ?_, ?_, ?_⟩
            · go_num
            · rw [NX.out, ← List.append_assoc, HTT.out]; simp [str, ByteArray.mk_append_mk]
            · exact Lib.hid (NH.out.trans NF.out)
          case measure => simp [intOf]; omega
      · obtain rfl : j = 5 := by omega
        go_wp2
        go_ret
        exact ⟨by unfold boxTx; rw [EH.out, EVS.out, HTT.out]; rfl, NN.out.trans HN.out⟩
  · have kpi : ¬ (k : Int) = 0 := by omega
    have kd : decide ((k : Int) = 0) = false := decide_eq_false kpi
    have EH : Hid (hdT k wd ht = kn k) := Lib.hid (by unfold hdT; rw [if_neg (by omega)])
    generalize kn k = K at *
    go_enter Tryz.func29, Tryz.ntmps29
    go_wp2_with fail
    obtain ⟨gb, hgb⟩ : ∃ g, w.heap.size = g := ⟨_, rfl⟩
    have N1 : New w (w.alloc (.cells #[.int .i64 p, .int .i64 (k : Int), .int .i64 wd, .int .i64 ht, .int .i64 a0, .int .i64 a1, .int .i64 a2, .int .i64 a3, .int .i64 a4] 38)) := by (repeat (first | exact New.refl _ | assumption | refine New.alloc ?_ _ | refine New.drew ?_ | refine New.drewN ?_ _ | refine New.setCell ?_ (by first | omega | (simp; omega) | (simp; done)) _ | refine New.trans ?_ (by assumption)))
    have BC : ∀ j, j < 5 → ((w.alloc (.cells #[.int .i64 p, .int .i64 (k : Int), .int .i64 wd, .int .i64 ht, .int .i64 a0, .int .i64 a1, .int .i64 a2, .int .i64 a3, .int .i64 a4] 38))).cell? ⟨gb, 4 + j, none⟩ = some (.int .i64 (vs.getD j 0)) := fun j hj => by
      rw [← EVS.out, ← hgb]
      rcases (show j = 0 ∨ j = 1 ∨ j = 2 ∨ j = 3 ∨ j = 4 by omega) with rfl | rfl | rfl | rfl | rfl <;> simp [go_sem]
    have BZ : gb < ((w.alloc (.cells #[.int .i64 p, .int .i64 (k : Int), .int .i64 wd, .int .i64 ht, .int .i64 a0, .int .i64 a1, .int .i64 a2, .int .i64 a3, .int .i64 a4] 38))).heap.size := by rw [← hgb]; simp
    rw [hgb]
    generalize (w.alloc (.cells #[.int .i64 p, .int .i64 (k : Int), .int .i64 wd, .int .i64 ht, .int .i64 a0, .int .i64 a1, .int .i64 a2, .int .i64 a3, .int .i64 a4] 38)) = W1 at *
    refine (styleWords_any gb _).mono ?_
    rintro e w2 ⟨f, rfl, N2, f0, f1, FS⟩
    have NN := Lib.hid (N1.trans N2)
    have BC := Lib.hid (fun j hj => (N2.cells gb (4 + j) BZ).trans (BC j hj))
    have BZ := Lib.hid (Nat.lt_of_lt_of_le BZ N2.le)
    have FS := Lib.hid FS
    clear N1 N2
    go_wp2
    go_loopw [3, 24] (fun t i wr => ∃ j : Nat, j ≤ 5 ∧ i = .int .i64 j ∧ t = str (K ++ sws vs j) ∧ Hid (New w2 wr)) (fun _ i _ => 5 - (intOf i).toNat)
    case atStart => exact ⟨0, Nat.zero_le _, rfl, by simp [str, sws], Lib.hid (New.refl _)⟩
    case round =>
      obtain ⟨j, hj, rfl, rfl, HN⟩ := hrel
      have j0 : (0 : Int) ≤ (j : Int) := by omega
      have TL := SL.out j hj
      rw [EVS.out] at TL
      obtain ⟨T, hT⟩ : ∃ T, K ++ sws vs j = T := ⟨_, rfl⟩
      have TL2 : T.length ≤ 100 := by rw [← hT, List.length_append]; omega
      rw [hT]
      have HTT := Lib.hid hT
      clear hT TL
      by_cases hlt : j < 5
      · have j1 : (j : Int) < 5 := by omega
        obtain ⟨b0, b1⟩ := HVS.out j hlt
        rw [EVS.out] at b0 b1
        have YES := Lib.hid (fun h => sws_yes (vs := vs) (j := j) h)
        have NO := Lib.hid (fun h => sws_no (vs := vs) (j := j) h)
        have ND_ := nm_len j
        have g1 := (HN.out.cells f (j * 2) f1).trans (FS.out j hlt).1
        have g2 := (HN.out.cells f (j * 2 + 1) f1).trans (FS.out j hlt).2
        have g3 := (HN.out.cells gb (4 + j) BZ.out).trans (BC.out j hlt)
        have z1 : f < wr.heap.size := Nat.lt_of_lt_of_le f1 HN.out.le
        have z2 : gb < wr.heap.size := Nat.lt_of_lt_of_le BZ.out HN.out.le
        generalize vs.getD j 0 = x at *
        generalize nm j = nmj at *
        by_cases hx : x = 0
        · have NX := Lib.hid (NO.out hx)
          subst hx
          go_wp2
          go_roundw
          case rel =>
            refine ⟨j + 1, by omega, ?_, ?_, ?_⟩
            · go_num
            · rw [NX.out, HTT.out]
            · exact Lib.hid (HN.out.alloc _)
          case measure => simp [intOf]; omega
        · have NX := Lib.hid (YES.out hx)
          obtain ⟨y, rfl⟩ := Int.eq_ofNat_of_zero_le b0
          have yn : ¬ (y : Int) = 0 := hx
          have yd : decide ((y : Int) = 0) = false := decide_eq_false hx
          have DY := Lib.hid (fun W hW => II.out y (by omega) W hW)
          have LY := dd_len (v := (y : Int)) ⟨b0, b1⟩
          rw [Int.toNat_natCast] at NX LY
          generalize Lib.decDigits y = D at *
          have f1' : ¬ 9223372036854775807 < 1 + nmj.length := by omega
          have f2' : ¬ 9223372036854775807 < 1 + nmj.length + 1 := by omega
          have f3' : ¬ 9223372036854775807 < 1 + nmj.length + 1 + D.length := by omega
          have f4' : ¬ 9223372036854775807 < T.length + (1 + nmj.length + 1 + D.length) := by omega
          clear hx
          go_wp2
          obtain ⟨gs, hgs⟩ : ∃ g, wr.heap.size = g := ⟨_, rfl⟩
          have NA : New wr (wr.alloc (.cells #[str nmj, .pointer (some ⟨gb, 4 + j, none⟩)] 94)) := (New.refl wr).alloc _
          have s1 : ((wr.alloc (.cells #[str nmj, .pointer (some ⟨gb, 4 + j, none⟩)] 94))).cell? ⟨gs, 0, none⟩ = some (str nmj) := by rw [← hgs]; simp [go_sem]
          have s2 : ((wr.alloc (.cells #[str nmj, .pointer (some ⟨gb, 4 + j, none⟩)] 94))).cell? ⟨gs, 1, none⟩ = some (.pointer (some ⟨gb, 4 + j, none⟩)) := by rw [← hgs]; simp [go_sem]
          have s3 := (NA.cells gb (4 + j) z2).trans g3
          have s4 : gs < ((wr.alloc (.cells #[str nmj, .pointer (some ⟨gb, 4 + j, none⟩)] 94))).heap.size := by rw [← hgs]; simp
          have s5 := Nat.lt_of_lt_of_le z2 NA.le
          rw [hgs]
          clear g1 g2 g3 z1 z2
          generalize (wr.alloc (.cells #[str nmj, .pointer (some ⟨gb, 4 + j, none⟩)] 94)) = WA at *
          have NW := Lib.hid ((NN.out.trans HN.out).trans NA)
          have NH := Lib.hid (HN.out.trans NA)
          have SX := Lib.hid (fun X (hX : New WA X) => (show (fun w' => w'.cell? ⟨gs, 0, none⟩ = some (str nmj) ∧ w'.cell? ⟨gs, 1, none⟩ = some (.pointer (some ⟨gb, 4 + j, none⟩)) ∧ w'.cell? ⟨gb, 4 + j, none⟩ = some (.int .i64 (y : Int))) X from ⟨(hX.cells gs 0 s4).trans s1, (hX.cells gs 1 s4).trans s2, (hX.cells gb (4 + j) s5).trans s3⟩))
          have ND := Lib.hid (New.refl WA).drew
          clear s1 s2 s3 s4 s5 NA
          refine wp_region_noPanic ?_
          refine wp_region_held_drew (S := fun w' => w'.cell? ⟨gs, 0, none⟩ = some (str nmj) ∧ w'.cell? ⟨gs, 1, none⟩ = some (.pointer (some ⟨gb, 4 + j, none⟩)) ∧ w'.cell? ⟨gb, 4 + j, none⟩ = some (.int .i64 (y : Int))) (by kernel_rfl) (SX.out WA (New.refl _)) (fun hHeld => ?_)
          generalize WA.drew = Vd at ND hHeld ⊢
          refine wpAnyH_take (i := 0) (oi := _) (v := ?_) rfl (by kernel_rfl) (by kernel_rfl) (by kernel_rfl) (fun _ _ _ h => h) (Or.inl ⟨by kernel_rfl, ?_⟩) (by assumption) ?_
          rotate_left; (intro w' hSw; (try dsimp only at hSw); go_split_ands; go_simp; (try with_reducible rfl))
          try dsimp only [Act.put]
          refine wpAnyH_take (i := 1) (oi := _) (v := ?_) rfl (by kernel_rfl) (by kernel_rfl) (by kernel_rfl) (fun _ _ _ h => h) (Or.inl ⟨by kernel_rfl, ?_⟩) (by assumption) ?_
          rotate_left; (intro w' hSw; (try dsimp only at hSw); go_split_ands; go_simp; (try with_reducible rfl))
          try dsimp only [Act.put]
          refine wpAnyH_take (i := 2) (oi := _) (v := ?_) rfl (by kernel_rfl) (by kernel_rfl) (by kernel_rfl) (fun _ _ _ h => h) (Or.inl ⟨by kernel_rfl, ?_⟩) (by assumption) ?_
          rotate_left; (intro w' hSw; (try dsimp only at hSw); go_split_ands; go_simp; (try with_reducible rfl))
          try dsimp only [Act.put]
          refine wpAnyH_take (i := 3) (oi := _) (v := ?_) rfl (by kernel_rfl) (by kernel_rfl) (by kernel_rfl) (fun _ _ _ h => h) (Or.inl ⟨by kernel_rfl, ?_⟩) (by assumption) ?_
          rotate_left; (intro w' hSw; (try dsimp only at hSw); go_split_ands; go_simp; (try with_reducible rfl))
          try dsimp only [Act.put]
          refine wpAnyH_take (i := 4) (oi := _) (v := ?_) rfl (by kernel_rfl) (by kernel_rfl) (by kernel_rfl) (fun _ _ _ h => h) (Or.inl ⟨by kernel_rfl, ?_⟩) (by assumption) ?_
          rotate_left; (intro w' hSw; (try dsimp only at hSw); go_split_ands; go_simp; (try with_reducible rfl))
          try dsimp only [Act.put]
          refine wpAnyH_take (i := 5) (oi := _) (v := ?_) rfl (by kernel_rfl) (by kernel_rfl) (by kernel_rfl) (fun _ _ _ h => h) (Or.inl ⟨by kernel_rfl, ?_⟩) (by assumption) ?_
          rotate_left; (intro w' hSw; (try dsimp only at hSw); go_split_ands; go_simp; (try with_reducible rfl))
          try dsimp only [Act.put]
          refine wpAnyH_take (i := 6) (oi := _) (v := ?_) rfl (by kernel_rfl) (by kernel_rfl) (by kernel_rfl) (fun _ _ _ h => h) (Or.inl ⟨by kernel_rfl, ?_⟩) (by assumption) ?_
          rotate_left; (intro w' hSw; (try dsimp only at hSw); go_split_ands; go_simp; (try with_reducible rfl))
          try dsimp only [Act.put]
          refine wpAnyH_take (i := 7) (oi := _) (v := ?_) rfl (by kernel_rfl) (by kernel_rfl) (by kernel_rfl) (fun _ _ _ h => h) (Or.inl ⟨by kernel_rfl, ?_⟩) (by assumption) ?_
          rotate_left; (intro w' hSw; (try dsimp only at hSw); go_split_ands; go_simp; (try with_reducible rfl))
          try dsimp only [Act.put]
          refine wpAnyH_take (i := 8) (oi := _) (v := ?_) rfl (by kernel_rfl) (by kernel_rfl) (by kernel_rfl) (fun _ _ _ h => h) (Or.inl ⟨by kernel_rfl, ?_⟩) (by assumption) ?_
          rotate_left; (intro w' hSw; (try dsimp only at hSw); go_split_ands; go_simp; (try with_reducible rfl))
          try dsimp only [Act.put]
          refine wpAnyH_ready (rs := [9]) (by kernel_rfl) (by simp) ?_
          refine AllReadyH.cons (o := _) rfl (fun K hK => ?_) AllReadyH.nil
          go_simp
          go_at_call 58
          refine (DY.out _ (NW.out.trans ND.out)).mono ?_
          rintro e wc ⟨rfl, Nc⟩
          have NF := Lib.hid (ND.out.trans Nc)
          clear Nc
          have Hwc := SX.out wc NF.out
          go_wp2_with fail
          refine hK.out _ _ (Hwc) (fun hH9 => ?_)
          clear hK K
          try dsimp only [Act.put]
          refine wpAnyH_take (i := 10) (oi := _) (v := ?_) rfl (by kernel_rfl) (by kernel_rfl) (by kernel_rfl) (fun _ _ _ h => h) (Or.inl ⟨by kernel_rfl, ?_⟩) (by assumption) ?_
          rotate_left; (intro w' hSw; (try dsimp only at hSw); go_split_ands; go_simp; (try with_reducible rfl))
          try dsimp only [Act.put]
          refine wpAnyH_take (i := 11) (oi := _) (v := ?_) rfl (by kernel_rfl) (by kernel_rfl) (by kernel_rfl) (fun _ _ _ h => h) (Or.inl ⟨by kernel_rfl, ?_⟩) (by assumption) ?_
          rotate_left; (intro w' hSw; (try dsimp only at hSw); go_split_ands; go_simp; (try with_reducible rfl))
          try dsimp only [Act.put]
          refine wpAnyH_ready (rs := [12]) (by kernel_rfl) (by simp) ?_
          refine AllReadyH.cons (o := _) rfl (fun K hK => ?_) AllReadyH.nil
          go_simp
          refine hK.out _ _ (Hwc) (fun hH12 => ?_)
          clear hK K
          try dsimp only [Act.put]
          refine wpAnyH_done (by kernel_rfl) ?_ _
          refine NoPanic.normal ?_
          go_simp
          go_wp2
          go_roundw
          case rel =>
            refine ⟨j + 1, by omega, ?_, ?_, ?_⟩
            · go_num
            · rw [NX.out, ← List.append_assoc, HTT.out]; simp [str, ByteArray.mk_append_mk]
            · exact Lib.hid (NH.out.trans NF.out)
          case measure => simp [intOf]; omega
      · obtain rfl : j = 5 := by omega
        go_wp2
        go_ret
        exact ⟨by unfold boxTx; rw [EH.out, EVS.out, HTT.out]; rfl, NN.out.trans HN.out⟩
end Go.Proofs.YtffggmjhaaehlaaGreatDoor
