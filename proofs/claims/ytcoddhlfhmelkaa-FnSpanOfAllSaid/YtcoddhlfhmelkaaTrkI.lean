/- Sizes of tracks, in the program, walked. Condition: the tracks can be read. -/
import Derived.Test.YtcoddhlfhmelkaaTrkM
import Derived.Test.YtcoddhlfhmelkaaTrkV
import Derived.RegionTactic
import Derived.BigRegion
import Derived.Deep.Cut
import Derived.Deep.CutRange
namespace Go.Proofs.Ytcoddhlfhmelkaa
open Go.RowKit

theorem made_two (w1 : World) (n : Nat) : Row (((w1.alloc (.cells (madeCells #[.int .i64 0] n) 3)).alloc (.cells (madeCells #[.int .i64 0] n) 3)).drew) w1.heap.size (List.replicate n 0) ∧ Row (((w1.alloc (.cells (madeCells #[.int .i64 0] n) 3)).alloc (.cells (madeCells #[.int .i64 0] n) 3)).drew) (w1.heap.size + 1) (List.replicate n 0) ∧ New w1 (((w1.alloc (.cells (madeCells #[.int .i64 0] n) 3)).alloc (.cells (madeCells #[.int .i64 0] n) 3)).drew) := by
  have r := Row.made (w1.alloc (.cells (madeCells #[.int .i64 0] n) 3)) n 3
  rw [World.size_alloc] at r
  exact ⟨(Row.made w1 n _).new (((New.refl _).alloc _).drew), r.new (New.refl _).drew, (((New.refl _).alloc _).alloc _).drew⟩
set_option maxRecDepth 100000 in
set_option maxHeartbeats 4000000 in
theorem TrackSizes_yes (A : Option Addr) (n c : Nat) (zs : List Int) (space gap : Int) (hn : n ≤ 1048576) (hv : tsOk n zs space gap = true) (w : World) (hx : Sts 2 w A n zs) :
    Calls Try.prog 25 #[.slice A n c, .int .i64 space, .int .i64 gap] w (Ans w (tsL n zs space gap)) := by
  obtain ⟨hv1, hs, hg⟩ := tsOk_iff.1 hv
  obtain ⟨hn8, hok⟩ := trsB_iff.1 hv1
  have HX := Lib.hid hx; have HV := Lib.hid hv1; have HOK := Lib.hid hok
  have d1 := decide_eq_true hs; have d2 := decide_eq_true hg
  have hmk := fun W => run_make_row' (P := Try.prog) 23 3 (.int .i64 0) 8 Try.underlying23 (by kernel_rfl) rfl .i64 .i64 n (by omega) (by omega) W
  have n0 : (0 : Int) ≤ (n : Int) := by omega
  have SM : Hid (Sml (szL n zs)) := Lib.hid (fun z hz => by have := szL_mem hok z hz; omega)
  have GS := gapSum_bd hn8 hok hg
  have LB := Lib.hid (leftT_bd hn8 hok hs hg)
  have SO := Lib.hid (share_ok hn8 hok hs hg)
  have BD : Hid (∀ k, k < n → 0 ≤ zs.getD (k * 2) 0 ∧ zs.getD (k * 2) 0 ≤ 10000) := Lib.hid (fun k hk => (okTr_iff.1 (hok k hk)).1)
  clear hx hv hv1 hok
  go_enter Try.func25, Try.ntmps25
  go_upto_region 3 with (first
    | (go_at_call 47; refine (ValidTracks_any A n c zs hn _ (HX.out.new (by (repeat (first | exact New.refl _ | assumption | refine New.alloc ?_ _ | refine New.drew ?_ | refine New.drewN ?_ _ | refine New.setCell ?_ (by first | omega | (simp; omega) | (simp; done)) _ | refine New.trans ?_ (by assumption)))))).mono ?_; rw [HV.out]; rintro e w1 ⟨rfl, N1⟩; have N1 := Lib.hid N1)
    | (go_at_call_of 40 space; refine (within_any _ _ _ _).mono ?_; rw [d1]; rintro e w' ⟨rfl, rfl⟩)
    | (go_at_call_of 40 gap; refine (within_any _ _ _ _).mono ?_; rw [d2]; rintro e w' ⟨rfl, rfl⟩))
  go_cut [7, 8] from 27 to 32 (fun s7 s8 wx => ∃ g h : Nat, s7 = .slice (some ⟨g, 0, none⟩) n n ∧ s8 = .slice (some ⟨h, 0, none⟩) n n ∧ g ≠ h ∧ w.heap.size ≤ g ∧ w.heap.size ≤ h ∧ Hid (Row wx g (List.replicate n 0)) ∧ Hid (Row wx h (List.replicate n 0)) ∧ Hid (New w wx))
  case first =>
    have s1 := N1.out.le
    obtain ⟨m1, m2, m3⟩ := made_two w1 n
    have M1 := Lib.hid m1; have M2 := Lib.hid m2; have M3 := Lib.hid m3
    clear m1 m2 m3
    go_region
    · go_wp2_with fail
      go_meet
      case rel => exact ⟨w1.heap.size, w1.heap.size + 1, rfl, rfl, by omega, by omega, by omega, M1, M2, Lib.hid (N1.out.trans M3.out)⟩
    · go_wp2_with fail
      go_meet
      case rel => exact ⟨w1.heap.size + 1, w1.heap.size, rfl, rfl, by omega, by omega, by omega, M2, M1, Lib.hid (N1.out.trans M3.out)⟩
  case rest =>
    obtain ⟨g, h, rfl, rfl, hgh, hwg, hwh, RG, RH, NN⟩ := hcut
    clear hmk d1 d2
    go_wp2
    go_loopw [35] (fun i wr => ∃ k : Nat, k ≤ n ∧ i = .int .i64 k ∧ Hid (Row wr g (upTo k (szL n zs))) ∧ Hid (Row wr h (upTo k (ptL n zs))) ∧ Hid (New w wr)) (fun i _ => n - (intOf i).toNat)
    case atStart => exact ⟨0, Nat.zero_le _, rfl, Lib.hid (by rw [upTo_zero, szL_len]; exact RG.out), Lib.hid (by rw [upTo_zero, ptL_len]; exact RH.out), NN⟩
    case round =>
      obtain ⟨k, hk, rfl, HG, HH, HN⟩ := hrel
      have k0 : (0 : Int) ≤ (k : Int) := by omega
      by_cases hlt : k < n
      · obtain ⟨b, off, rfl, hb, hc⟩ := HX.out.at_ (by omega)
        have g0 : wr.cell? ⟨b, off + k * 2, none⟩ = some (.int .i64 (zs.getD (k * 2) 0)) := (HN.out.cells b _ hb).trans (hc (k * 2) (by omega))
        have g1 : wr.cell? ⟨b, off + k * 2 + 1, none⟩ = some (.int .i64 (zs.getD (k * 2 + 1) 0)) := (HN.out.cells b _ hb).trans (hc (k * 2 + 1) (by omega))
        have k1 : (k : Int) < (n : Int) := by omega
        have lg : (upTo k (szL n zs)).length = n := by rw [upTo_len _ _ (by rw [szL_len]; exact hk), szL_len]
        have lh : (upTo k (ptL n zs)).length = n := by rw [upTo_len _ _ (by rw [ptL_len]; exact hk), ptL_len]
        have fg := HG.out.f k (by rw [lg]; exact hlt); have og := HG.out.c k (by rw [lg]; exact hlt)
        have fh := HH.out.f k (by rw [lh]; exact hlt); have oh := HH.out.c k (by rw [lh]; exact hlt)
        have gl := HG.out.lt; have hl := HH.out.lt
        have STG : Hid (Row ((wr.setCell ⟨g, k, none⟩ (.int .i64 (zs.getD (k * 2) 0))).setCell ⟨h, k, none⟩ (.int .i64 (zs.getD (k * 2 + 1) 0))) g (upTo (k + 1) (szL n zs)) ∧ Row ((wr.setCell ⟨g, k, none⟩ (.int .i64 (zs.getD (k * 2) 0))).setCell ⟨h, k, none⟩ (.int .i64 (zs.getD (k * 2 + 1) 0))) h (upTo (k + 1) (ptL n zs)) ∧ New w ((wr.setCell ⟨g, k, none⟩ (.int .i64 (zs.getD (k * 2) 0))).setCell ⟨h, k, none⟩ (.int .i64 (zs.getD (k * 2 + 1) 0)))) := Lib.hid (by
          have r1 := HG.out.set_ (k := k) (by rw [lg]; exact hlt) (zs.getD (k * 2) 0)
          have r2 := (HH.out.far (p := ⟨g, k, none⟩) hgh (.int .i64 (zs.getD (k * 2) 0))).set_ (k := k) (by rw [lh]; exact hlt) (zs.getD (k * 2 + 1) 0)
          have e1 := upTo_step k (szL n zs) (by rw [szL_len]; exact hlt)
          have e2 := upTo_step k (ptL n zs) (by rw [ptL_len]; exact hlt)
          rw [szL_at hlt] at e1; rw [ptL_at hlt] at e2
          rw [e1] at r1; rw [e2] at r2
          exact ⟨r1.far (p := ⟨h, k, none⟩) (Ne.symm hgh) _, r2, (HN.out.setCell hwg _).setCell hwh _⟩)
        clear hc lg lh
        generalize zs.getD (k * 2) 0 = x at *
        generalize zs.getD (k * 2 + 1) 0 = y at *
        generalize (upTo k (szL n zs)).getD k 0 = z0 at og
        generalize (upTo k (ptL n zs)).getD k 0 = z1 at oh
        go_wp2
        go_region
        go_wp2
        go_roundw
        case rel => exact ⟨k + 1, by omega, by go_num, Lib.hid (STG.out.1.new (((New.refl _).alloc _).drew)), Lib.hid (STG.out.2.1.new (((New.refl _).alloc _).drew)), Lib.hid ((STG.out.2.2.alloc _).drew)⟩
        case measure => simp [intOf]; omega
      · obtain rfl : k = n := by omega
        have R1 : Hid (Row wr g (szL k zs)) := Lib.hid (by have r := HG.out; rw [show upTo k (szL k zs) = szL k zs by have e := upTo_all (szL k zs); rw [szL_len] at e; exact e] at r; exact r)
        have R2 : Hid (Row wr h (ptL k zs)) := Lib.hid (by have r := HH.out; rw [show upTo k (ptL k zs) = ptL k zs by have e := upTo_all (ptL k zs); rw [ptL_len] at e; exact e] at r; exact r)
        have I1 : Hid (∀ W, New wr W → Ints W (some ⟨g, 0, none⟩) k (szL k zs)) := Lib.hid (fun W hW => by have i := (R1.out.new hW).ints; rw [szL_len] at i; exact i)
        have I2 : Hid (∀ W, New wr W → Ints W (some ⟨h, 0, none⟩) k (ptL k zs)) := Lib.hid (fun W hW => by have i := (R2.out.new hW).ints; rw [ptL_len] at i; exact i)
        have CS : Hid (∀ W, New wr W → Calls Try.prog 48 #[.int .i64 (mx 0 (space - gapSum (szL k zs) gap)), .slice (some ⟨h, 0, none⟩) k k] W (Ans W (shareL (leftT k zs space gap) (ptL k zs)))) := Lib.hid (fun W hW => by
          have hc := ShareSpace_ans (leftT k zs space gap) (ptL k zs) (some ⟨h, 0, none⟩) k k W (I2.out W hW) hn
          rw [SO.out] at hc
          exact hc)
        have SB : Hid (∀ i, 0 ≤ (shareL (leftT k zs space gap) (ptL k zs)).getD i 0 ∧ (shareL (leftT k zs space gap) (ptL k zs)).getD i 0 ≤ 200000) := Lib.hid (fun i => by have := share_bd (a := leftT k zs space gap) (ws := ptL k zs) LB.out.1 (share_wts HOK.out) i; have := LB.out.2; omega)
        have SL : Hid ((shareL (leftT k zs space gap) (ptL k zs)).length = k) := Lib.hid (by rw [shareL_len, ptL_len])
        have TE : Hid (∀ i, i < k → (tsL k zs space gap).getD i 0 = zs.getD (i * 2) 0 + (shareL (leftT k zs space gap) (ptL k zs)).getD i 0) := Lib.hid (fun i hi => tsL_at hi)
        generalize shareL (leftT k zs space gap) (ptL k zs) = sh at *
        have gs0 := GS.1; have gs1 := GS.2
        have hmx := run_mx Try.prog
        have SG : Hid (∀ W, New wr W → Calls Try.prog 41 #[.slice (some ⟨g, 0, none⟩) k k, .int .i64 gap] W fun e w' => e = .returned (.int .i64 (gapSum (szL k zs) gap)) ∧ W = w') := Lib.hid (fun W hW => sumWithGaps_any _ k k (szL k zs) gap (by omega) hg W (I1.out W hW) SM.out)
        generalize gapSum (szL k zs) gap = gs at *
        obtain ⟨wo, hwo⟩ : ∃ x, x = wr := ⟨wr, rfl⟩
        subst hwo
        clear HG HH RG RH NN GS I2 LB SO HV HX
        go_wp2_with (first
          | (go_at_call 41; refine (SG.out _ (by (repeat (first | exact New.refl _ | assumption | refine New.alloc ?_ _ | refine New.drew ?_ | refine New.drewN ?_ _ | refine New.setCell ?_ (by first | omega | (simp; omega) | (simp; done)) _ | refine New.trans ?_ (by assumption))))).mono ?_; rintro e w' ⟨rfl, rfl⟩)
          | (go_at_call 48; refine (CS.out _ (by (repeat (first | exact New.refl _ | assumption | refine New.alloc ?_ _ | refine New.drew ?_ | refine New.drewN ?_ _ | refine New.setCell ?_ (by first | omega | (simp; omega) | (simp; done)) _ | refine New.trans ?_ (by assumption))))).mono ?_; rintro e w2 ⟨A2, n2, c2, rfl, l2, r2, N2⟩; obtain rfl : k = n2 := by { rw [← l2, SL.out] }; have L2 := Lib.hid l2; have R2' := Lib.hid r2; have N2 := Lib.hid N2; clear l2 r2))
        have g2 := R1.out.lt
        have R3 := Lib.hid (R1.out.new N2.out)
        have N3 := Lib.hid (HN.out.trans N2.out)
        have TL := Lib.hid (tsL_len k zs space gap)
        have ZL := Lib.hid (szL_len k zs)
        clear I1 CS SG R1 SM HOK
        go_loopw [61] (fun i wr => ∃ j : Nat, j ≤ k ∧ i = .int .i64 j ∧ Hid (Row wr g (mixL (tsL k zs space gap) (szL k zs) j)) ∧ Hid (New w wr) ∧ Hid (Res wo.heap.size w2.heap.size wr A2 sh)) (fun i _ => k - (intOf i).toNat)
        case atStart => exact ⟨0, Nat.zero_le _, rfl, Lib.hid (by rw [mixL_zero]; exact R3.out), N3, R2'⟩
        case round =>
          obtain ⟨j, hj, rfl, HG, HM, HS⟩ := hrel
          have j0 : (0 : Int) ≤ (j : Int) := by omega
          have lt : (tsL k zs space gap).length = (szL k zs).length := TL.out.trans ZL.out.symm
          by_cases hlt : j < k
          · have j1 : (j : Int) < (k : Int) := by omega
            obtain ⟨b, off, e2, hb, hc⟩ := (HS.out.ints L2.out).at_ (by omega)
            subst e2
            have g0 := hc j hlt
            have lm : (mixL (tsL k zs space gap) (szL k zs) j).length = k := (mixL_len lt (by rw [TL.out]; exact hj)).trans ZL.out
            have fg := HG.out.f j (by rw [lm]; exact hlt)
            have og := HG.out.c j (by rw [lm]; exact hlt)
            rw [mixL_at lt (by rw [TL.out]; exact hlt), szL_at hlt] at og
            have st := HG.out.set_ (k := j) (by rw [lm]; exact hlt) ((tsL k zs space gap).getD j 0)
            rw [mixL_step lt (by rw [TL.out]; exact hlt), TE.out j hlt] at st
            have ST := Lib.hid st
            obtain ⟨b0, b1⟩ := BD.out j hlt
            obtain ⟨s0, s1⟩ := SB.out j
            clear hc lm st
            generalize zs.getD (j * 2) 0 = x at *
            generalize sh.getD j 0 = y at *
            go_wp2
            go_roundw
            case rel => exact ⟨j + 1, by omega, by go_num, ST, Lib.hid (HM.out.setCell hwg _), Lib.hid (HS.out.chg (Chg.of_grown (lo := g) (hi := g + 1) (own_set (World.grownBy.refl _ _) _) (Nat.le_refl _) (by omega)) (Or.inr g2))⟩
            case measure => simp [intOf]; omega
          · obtain rfl : j = k := by omega
            have RR : Hid (Row wr g (tsL j zs space gap)) := Lib.hid (by have r := HG.out; rw [show mixL (tsL j zs space gap) (szL j zs) j = tsL j zs space gap by have e := mixL_all lt; rw [TL.out] at e; exact e] at r; exact r)
            go_wp2
            go_ret
            exact Ans.row rfl TL.out hwg RR.out HM.out
theorem TrackSizes_ans (A : Option Addr) (n c : Nat) (zs : List Int) (space gap : Int) (hn : n ≤ 1048576) (w : World) (hx : Sts 2 w A n zs) :
    Calls Try.prog 25 #[.slice A n c, .int .i64 space, .int .i64 gap] w (Ans w (tsA n zs space gap)) := by
  unfold tsA
  split
  · next h => exact TrackSizes_yes A n c zs space gap hn h w hx
  · next h =>
    have HX := Lib.hid hx
    have CV := Lib.hid (fun W (hW : New w W) => ValidTracks_any A n c zs hn W (hx.new hW))
    clear hx
    cases hv : trsB n zs
    · go_enter Try.func25, Try.ntmps25
      go_wp2_with (go_at_call 47; refine (CV.out _ (by (repeat (first | exact New.refl _ | assumption | refine New.alloc ?_ _ | refine New.drew ?_ | refine New.drewN ?_ _ | refine New.setCell ?_ (by first | omega | (simp; omega) | (simp; done)) _ | refine New.trans ?_ (by assumption))))).mono ?_; rw [hv]; rintro e w1 ⟨rfl, N1⟩; have N1 := Lib.hid N1)
      go_ret
      exact Ans.none_ rfl N1.out
    cases h1 : decide (0 ≤ space ∧ space ≤ 200000)
    · go_enter Try.func25, Try.ntmps25
      go_wp2_with (first
        | (go_at_call 47; refine (CV.out _ (by (repeat (first | exact New.refl _ | assumption | refine New.alloc ?_ _ | refine New.drew ?_ | refine New.drewN ?_ _ | refine New.setCell ?_ (by first | omega | (simp; omega) | (simp; done)) _ | refine New.trans ?_ (by assumption))))).mono ?_; rw [hv]; rintro e w1 ⟨rfl, N1⟩; have N1 := Lib.hid N1)
        | (go_at_call_of 40 space; refine (within_any _ _ _ _).mono ?_; rw [h1]; rintro e w' ⟨rfl, rfl⟩))
      go_ret
      exact Ans.none_ rfl N1.out
    have h2 : decide (0 ≤ gap ∧ gap ≤ 50) = false := by
      rw [Bool.eq_false_iff]
      intro h2
      exact h (tsOk_iff.2 ⟨hv, of_decide_eq_true h1, of_decide_eq_true h2⟩)
    go_enter Try.func25, Try.ntmps25
    go_wp2_with (first
      | (go_at_call 47; refine (CV.out _ (by (repeat (first | exact New.refl _ | assumption | refine New.alloc ?_ _ | refine New.drew ?_ | refine New.drewN ?_ _ | refine New.setCell ?_ (by first | omega | (simp; omega) | (simp; done)) _ | refine New.trans ?_ (by assumption))))).mono ?_; rw [hv]; rintro e w1 ⟨rfl, N1⟩; have N1 := Lib.hid N1)
      | (go_at_call_of 40 space; refine (within_any _ _ _ _).mono ?_; rw [h1]; rintro e w' ⟨rfl, rfl⟩)
      | (go_at_call_of 40 gap; refine (within_any _ _ _ _).mono ?_; rw [h2]; rintro e w' ⟨rfl, rfl⟩))
    go_ret
    exact Ans.none_ rfl N1.out
end Go.Proofs.Ytcoddhlfhmelkaa
