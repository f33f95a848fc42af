/- Sizes of tracks, in the reference, walked. Condition: the tracks can be read. -/
import Derived.Test.YtcoddhlfhmelkaaTrkM
import Derived.Test.YtcoddhlfhmelkaaTrkV
import Derived.Test.YtcoddhlfhmelkaaAppH
import Derived.Test.YtcoddhlfhmelkaaShareS
import Derived.Deep.RegionHeld3
namespace Go.Proofs.Ytcoddhlfhmelkaa
open Go.RowKit

set_option maxRecDepth 100000 in
set_option maxHeartbeats 8000000 in
theorem stracks_any (A : Option Addr) (n c : Nat) (zs : List Int) (space gap : Int) (hn : n ≤ 1048576) (hv : tsOk n zs space gap = true) (w : World) (hx : Sts 2 w A n zs) :
    Calls Try.prog 50 #[.slice A n c, .int .i64 space, .int .i64 gap] w (AnsK w (tsL n zs space gap)) := by
  obtain ⟨hv1, hs, hg⟩ := tsOk_iff.1 hv
  obtain ⟨hn8, hok⟩ := trsB_iff.1 hv1
  have HX := Lib.hid hx; have HOK := Lib.hid hok
  have n0 : (0 : Int) ≤ (n : Int) := by omega
  have gp := gapp_bd (g := gap) (n := (n : Int) - 1) hg (by omega)
  obtain ⟨gp0, gp1⟩ := gp
  have s1 : IntKind.i64.wrap ((n : Int) - 1) = (n : Int) - 1 := IntWalk.i64_in _ (by omega)
  have LB := Lib.hid (leftT_bd hn8 hok hs hg)
  have LE : Hid (mx 0 (space - gap * ((n : Int) - 1) - (szL n zs).sum) = leftT n zs space gap) := Lib.hid (by
    unfold leftT
    rw [gapSum_pos (szL_len n zs) (by omega)]
    congr 1
    omega)
  have BD : Hid (∀ k, k < n → 0 ≤ zs.getD (k * 2) 0 ∧ zs.getD (k * 2) 0 ≤ 10000) := Lib.hid (fun k hk => (okTr_iff.1 (hok k hk)).1)
  have SB : Hid (∀ k, k ≤ n → 0 ≤ ((szL n zs).take k).sum ∧ ((szL n zs).take k).sum ≤ 80000) := Lib.hid (fun k hk => by
    have m : ∀ z ∈ (szL n zs).take k, 0 ≤ z ∧ z ≤ 10000 := fun z hz => szL_mem hok z (List.mem_of_mem_take hz)
    have a := sum_nonneg (xs := (szL n zs).take k) fun z hz => (m z hz).1
    have b := sumL_le (xs := (szL n zs).take k) (M := 10000) fun z hz => (m z hz).2
    have l : (((szL n zs).take k).length : Int) ≤ 8 := by rw [List.length_take, szL_len]; omega
    omega)
  have SN : Hid (∀ k, k < n → ((szL n zs).take (k + 1)).sum = ((szL n zs).take k).sum + zs.getD (k * 2) 0) := Lib.hid (fun k hk => by rw [sum_snoc (by rw [szL_len]; exact hk), szL_at hk])
  have PT : Hid (∀ k, k < n → (ptL n zs).take (k + 1) = (ptL n zs).take k ++ [zs.getD (k * 2 + 1) 0]) := Lib.hid (fun k hk => by rw [take_snoc_i (by rw [ptL_len]; exact hk), ptL_at hk])
  have PL : Hid (∀ k, ((ptL n zs).take k).length ≤ 8) := Lib.hid (fun k => by rw [List.length_take, ptL_len]; omega)
  obtain ⟨hs0, hs1⟩ := hs
  clear hx hv hv1 hok
  have O0 := Own.empty (lo := w.heap.size) w 0 (Nat.le_refl _) rfl
  have O1 : Own (w.heap.size + 1) ((w.alloc (.cells #[] 3)).alloc (.cells #[] 3)) (.slice (some ⟨w.heap.size + 1, 0, none⟩) 0 0) [] := by
    have h := Own.empty (lo := w.heap.size + 1) (w.alloc (.cells #[] 3)) 0 (by simp) rfl
    rw [World.size_alloc] at h
    exact h
  have O0 := Lib.hid (O0.alloc (.cells #[] 3)); have O1 := Lib.hid O1
  go_enter Try.func50, Try.ntmps50
  go_wp2
  go_loopw [8, 9, 10] (fun v l i wr => ∃ k : Nat, k ≤ n ∧ i = .int .i64 k ∧ l = .int .i64 (space - gap * ((n : Int) - 1) - ((szL n zs).take k).sum) ∧ Hid (Own (w.heap.size + 1) wr v ((ptL n zs).take k)) ∧ Hid (Own w.heap.size wr (.slice (some ⟨w.heap.size, 0, none⟩) 0 0) []) ∧ Hid (New w wr)) (fun _ _ i _ => n - (intOf i).toNat)
  case atStart => exact ⟨0, Nat.zero_le _, rfl, by simp, O1, O0, Lib.hid (by (repeat (first | exact New.refl _ | assumption | refine New.alloc ?_ _ | refine New.drew ?_ | refine New.drewN ?_ _ | refine New.setCell ?_ (by first | omega | (simp; omega) | (simp; done)) _ | refine New.trans ?_ (by assumption))))⟩
  case round =>
    obtain ⟨k, hk, rfl, rfl, HO, HE, HN⟩ := hrel
    have k0 : (0 : Int) ≤ (k : Int) := by omega
    have wl := HN.out.le
    have wl2 : w.heap.size + 1 ≤ wr.heap.size := by
      rcases HE.out.form with ⟨h, _⟩ | ⟨g, c0, h, _, hR, _, _⟩
      · cases h
      · have := hR.lt; simp at h; omega
    by_cases hlt : k < n
    · obtain ⟨b, off, rfl, hb, hc⟩ := HX.out.at_ (by omega)
      have g0 : wr.cell? ⟨b, off + k * 2, none⟩ = some (.int .i64 (zs.getD (k * 2) 0)) := (HN.out.cells b _ hb).trans (hc (k * 2) (by omega))
      have g1 : wr.cell? ⟨b, off + k * 2 + 1, none⟩ = some (.int .i64 (zs.getD (k * 2 + 1) 0)) := (HN.out.cells b _ hb).trans (hc (k * 2 + 1) (by omega))
      have k1 : (k : Int) < (n : Int) := by omega
      have sn := SN.out k hlt
      have pt := PT.out k hlt
      obtain ⟨b0, b1⟩ := BD.out k hlt
      obtain ⟨c0, c1⟩ := SB.out k hk
      obtain ⟨v, hv'⟩ : ∃ v, v = u8 := ⟨_, rfl⟩
      rw [← hv'] at HO ⊢
      have PLk := Lib.hid (PL.out k)
      have SN1 := Lib.hid sn; have PT1 := Lib.hid pt
      clear hv' hc sn pt
      generalize zs.getD (k * 2) 0 = x at *
      generalize zs.getD (k * 2 + 1) 0 = y at *
      generalize ((szL n zs).take k).sum = S at *
      go_wp2_with (at_builtin; refine wp_app rfl _ _ rfl (w.heap.size + 1) v _ rfl (HO.out.alloc _) (some ⟨wr.heap.size, 0, none⟩) 1 1 [y] rfl (Ints.one wr _ _) (by have := PLk.out; omega) (by simp; omega) ?_; intro v6 w6 O6 G6; (have N6 := Lib.hid (new_own (HN.out.alloc _) G6 (HO.out.alloc _) (by omega))); (have E6 := Lib.hid ((HE.out.alloc _).apart G6 (fun g hg e => by have h1 := HO.out.below e; simp [Value.ownBlock] at hg; omega))); (replace O6 := Lib.hid O6); clear G6)
      go_roundw
      case rel => exact ⟨k + 1, by omega, by go_num, by rw [SN1.out]; congr 1; omega, Lib.hid (by rw [PT1.out]; exact O6.out), E6, N6⟩
      case measure => simp [intOf]; omega
    · obtain rfl : k = n := by omega
      obtain ⟨v, hv'⟩ : ∃ v, v = u8 := ⟨_, rfl⟩
      rw [← hv'] at HO ⊢
      have HP : Hid (Own (w.heap.size + 1) wr v (ptL k zs)) := Lib.hid (by have h := HO.out; rw [List.take_of_length_le (by rw [ptL_len]; exact Nat.le_refl _)] at h; exact h)
      have se : ((szL k zs).take k).sum = (szL k zs).sum := by rw [List.take_of_length_le (by rw [szL_len]; exact Nat.le_refl _)]
      have sb := SB.out k (Nat.le_refl _)
      rw [se] at sb ⊢
      obtain ⟨A8, c8, rfl, _, R8⟩ := HP.out.res
      have I8 := Lib.hid (R8.ints rfl)
      rw [ptL_len] at I8
      have pl := ptL_len k zs
      rw [pl]
      have WT := Lib.hid (share_wts HOK.out)
      have hmx := run_mx Try.prog
      have SH := Lib.hid (fun W (hW : New wr W) => share_any A8 k c8 (leftT k zs space gap) (ptL k zs) (by omega) LB.out WT.out W (I8.out.new hW))
      have SBd : Hid (∀ i, 0 ≤ (shareL (leftT k zs space gap) (ptL k zs)).getD i 0 ∧ (shareL (leftT k zs space gap) (ptL k zs)).getD i 0 ≤ 200000) := Lib.hid (fun i => by have := share_bd (a := leftT k zs space gap) (ws := ptL k zs) LB.out.1 WT.out i; have := LB.out.2; omega)
      have SL : Hid ((shareL (leftT k zs space gap) (ptL k zs)).length = k) := Lib.hid (by rw [shareL_len, ptL_len])
      have TE : Hid (∀ i, i < k → (tsL k zs space gap).getD i 0 = zs.getD (i * 2) 0 + (shareL (leftT k zs space gap) (ptL k zs)).getD i 0) := Lib.hid (fun i hi => tsL_at hi)
      have TL := Lib.hid (tsL_len k zs space gap)
      generalize shareL (leftT k zs space gap) (ptL k zs) = sh at *
      obtain ⟨wo, hwo⟩ : ∃ x, x = wr := ⟨wr, rfl⟩
      subst hwo
      obtain ⟨sb0, sb1⟩ := sb
      rw [← LE.out] at SH
      clear se hv' HO HP R8 I8 SB SN PT PL pl O0 O1
      generalize (szL k zs).sum = S at *
      go_wp2_with (go_at_call 59; refine (SH.out _ (by (repeat (first | exact New.refl _ | assumption | refine New.alloc ?_ _ | refine New.drew ?_ | refine New.drewN ?_ _ | refine New.setCell ?_ (by first | omega | (simp; omega) | (simp; done)) _ | refine New.trans ?_ (by assumption))))).mono ?_; rintro e w2 ⟨g3, rfl, hg3, r3, N2⟩; have R3 := Lib.hid r3; have N2 := Lib.hid N2; clear r3)
      have E2 := Lib.hid (HE.out.new N2.out)
      have N3 := Lib.hid (HN.out.trans N2.out)
      have l2 := N2.out.le
      clear SH HE WT LE
      go_loopw [7, 12] (fun v i wr => ∃ j : Nat, j ≤ k ∧ i = .int .i64 j ∧ Hid (Own w.heap.size wr v ((tsL k zs space gap).take j)) ∧ Hid (New w wr) ∧ Hid (Row wr g3 sh) ∧ Hid (v.ownBlock ≠ some g3)) (fun _ i _ => k - (intOf i).toNat)
      case atStart => exact ⟨0, Nat.zero_le _, rfl, E2, N3, R3, Lib.hid (by simp [Value.ownBlock]; omega)⟩
      case round =>
        obtain ⟨j, hj, rfl, HO, HM, HR, HP⟩ := hrel
        have j0 : (0 : Int) ≤ (j : Int) := by omega
        obtain ⟨v, hv'⟩ : ∃ v, v = u7 := ⟨_, rfl⟩
        rw [← hv'] at HO HP ⊢
        clear hv'
        by_cases hlt : j < k
        · have j1 : (j : Int) < (k : Int) := by omega
          obtain ⟨b, off, rfl, hb, hc⟩ := HX.out.at_ (by omega)
          have gc : ∀ W, New w W → W.cell? ⟨b, off + j * 2, none⟩ = some (.int .i64 (zs.getD (j * 2) 0)) := fun W hW => (hW.cells b _ hb).trans (hc (j * 2) (by omega))
          have GC := Lib.hid gc
          have hc2 := HR.out.c j (by rw [SL.out]; exact hlt)
          have g0 := gc wr HM.out
          have r3 := HR.out.lt
          have tk : (tsL k zs space gap).take (j + 1) = (tsL k zs space gap).take j ++ [zs.getD (j * 2) 0 + sh.getD j 0] := by rw [take_snoc_i (by rw [TL.out]; exact hlt), TE.out j hlt]
          have tl : ((tsL k zs space gap).take j).length = j := by rw [List.length_take, TL.out]; omega
          have TK := Lib.hid tk; have TLj := Lib.hid tl
          obtain ⟨b0, b1⟩ := BD.out j hlt
          obtain ⟨s0, s1⟩ := SBd.out j
          have HCR := Lib.hid (fun W (r : Row W g3 sh) => r.c j (by rw [SL.out]; exact hlt))
          clear hc gc tk tl
          generalize zs.getD (j * 2) 0 = x at *
          generalize sh.getD j 0 = y at *
          have wx : IntKind.i64.wrap (x + y) = x + y := IntWalk.i64_in _ (by omega)
          have OA := Lib.hid (HO.out.drew.alloc (.cells #[.int .i64 (x + y)] 3))
          have NA := Lib.hid (HM.out.drew.alloc (.cells #[.int .i64 (x + y)] 3))
          have RA := Lib.hid (HR.out.new ((New.refl wr).drew.alloc (.cells #[.int .i64 (x + y)] 3)))
          have K1 := And.intro (GC.out _ HM.out.drew) (HCR.out _ (HR.out.new (New.refl wr).drew))
          have K2 := And.intro (GC.out _ NA.out) (HCR.out _ RA.out)
          have szw : w.heap.size ≤ wr.heap.size := HM.out.le
          go_wp2
          go_region_held3 (fun w' => w'.cell? ⟨b, off + j * 2, none⟩ = some (.int .i64 x) ∧ w'.cell? ⟨g3, j, none⟩ = some (.int .i64 y))
            (first | (exact K1) | (exact K2) | (exact K6) | assumption)
            (first | (refine step_app2b rfl (.tmp 53) (.tmp 64) rfl w.heap.size v _ rfl OA.out wr.heap.size (x + y) rfl (Ints.one wr.drew (x + y) 3) (by rw [TLj.out]; omega) (by simp; omega) ?_; intro v6 w6 O6 G6 B6; (have N6 := Lib.hid (new_own NA.out G6 OA.out (Nat.le_refl _))); (have R6 := Lib.hid (RA.out.keep G6 HP.out)); (have K6 := And.intro (GC.out w6 N6.out) (HCR.out w6 R6.out)); (have P6 : Hid (v6.ownBlock ≠ some g3) := Lib.hid (own_ne B6 HP.out (by simp; omega))); (replace O6 := Lib.hid O6); clear G6 B6))
          go_wp2
          go_roundw
          case rel => exact ⟨j + 1, by omega, by go_num, Lib.hid (by rw [TK.out]; exact O6.out), N6, R6, P6⟩
          case measure => simp [intOf]; omega
        · obtain rfl : j = k := by omega
          have RR : Hid (Own w.heap.size wr v (tsL j zs space gap)) := Lib.hid (by have h := HO.out; rw [List.take_of_length_le (by rw [TL.out]; exact Nat.le_refl _)] at h; exact h)
          go_wp2
          go_ret
          obtain ⟨A9, c9, rfl, h9, R9⟩ := RR.out.res
          exact ⟨A9, _, c9, rfl, rfl, h9, R9, HM.out⟩
theorem STrackSizes_ansK (A : Option Addr) (n c : Nat) (zs : List Int) (space gap : Int) (hn : n ≤ 1048576) (w : World) (hx : Sts 2 w A n zs) :
    Calls Try.prog 26 #[.slice A n c, .int .i64 space, .int .i64 gap] w (AnsK w (tsA n zs space gap)) := by
  have CV := Lib.hid (fun W (hW : New w W) => SvalidTracks_any A n c zs hn W (hx.new hW))
  unfold tsA
  split
  · next h =>
    have CT := Lib.hid (fun W (hW : New w W) => stracks_any A n c zs space gap hn h W (hx.new hW))
    obtain ⟨hv, h1, h2⟩ := tsOk_iff.1 h
    have d1 := decide_eq_true h1; have d2 := decide_eq_true h2
    clear hx h h1 h2
    go_enter Try.func26, Try.ntmps26
    go_wp2_with (first
      | (go_at_call 49; refine (CV.out _ (by (repeat (first | exact New.refl _ | assumption | refine New.alloc ?_ _ | refine New.drew ?_ | refine New.drewN ?_ _ | refine New.setCell ?_ (by first | omega | (simp; omega) | (simp; done)) _ | refine New.trans ?_ (by assumption))))).mono ?_; rw [hv]; rintro e w1 ⟨rfl, N1⟩; have N1 := Lib.hid N1)
      | (go_at_call_of 43 space; refine (inRange_any _ _ _ _).mono ?_; rw [d1]; rintro e w' ⟨rfl, rfl⟩)
      | (go_at_call_of 43 gap; refine (inRange_any _ _ _ _).mono ?_; rw [d2]; rintro e w' ⟨rfl, rfl⟩)
      | (go_at_call 50; refine (CT.out _ N1.out).mono ?_; rintro e w2 h2; have h3 := Lib.hid (h2.later N1.out); obtain ⟨A2, n2, c2, rfl, _⟩ := h2))
    go_ret
    exact h3.out
  · next h =>
    clear hx
    cases hv : trsB n zs
    · go_enter Try.func26, Try.ntmps26
      go_wp2_with (go_at_call 49; refine (CV.out _ (by (repeat (first | exact New.refl _ | assumption | refine New.alloc ?_ _ | refine New.drew ?_ | refine New.drewN ?_ _ | refine New.setCell ?_ (by first | omega | (simp; omega) | (simp; done)) _ | refine New.trans ?_ (by assumption))))).mono ?_; rw [hv]; rintro e w1 ⟨rfl, N1⟩; have N1 := Lib.hid N1)
      go_ret
      exact AnsK.nil_ rfl N1.out
    cases h1 : decide (0 ≤ space ∧ space ≤ 200000)
    · go_enter Try.func26, Try.ntmps26
      go_wp2_with (first
        | (go_at_call 49; refine (CV.out _ (by (repeat (first | exact New.refl _ | assumption | refine New.alloc ?_ _ | refine New.drew ?_ | refine New.drewN ?_ _ | refine New.setCell ?_ (by first | omega | (simp; omega) | (simp; done)) _ | refine New.trans ?_ (by assumption))))).mono ?_; rw [hv]; rintro e w1 ⟨rfl, N1⟩; have N1 := Lib.hid N1)
        | (go_at_call_of 43 space; refine (inRange_any _ _ _ _).mono ?_; rw [h1]; rintro e w' ⟨rfl, rfl⟩))
      go_ret
      exact AnsK.nil_ rfl N1.out
    have h2 : decide (0 ≤ gap ∧ gap ≤ 50) = false := by
      rw [Bool.eq_false_iff]
      intro h2
      exact h (tsOk_iff.2 ⟨hv, of_decide_eq_true h1, of_decide_eq_true h2⟩)
    go_enter Try.func26, Try.ntmps26
    go_wp2_with (first
      | (go_at_call 49; refine (CV.out _ (by (repeat (first | exact New.refl _ | assumption | refine New.alloc ?_ _ | refine New.drew ?_ | refine New.drewN ?_ _ | refine New.setCell ?_ (by first | omega | (simp; omega) | (simp; done)) _ | refine New.trans ?_ (by assumption))))).mono ?_; rw [hv]; rintro e w1 ⟨rfl, N1⟩; have N1 := Lib.hid N1)
      | (go_at_call_of 43 space; refine (inRange_any _ _ _ _).mono ?_; rw [h1]; rintro e w' ⟨rfl, rfl⟩)
      | (go_at_call_of 43 gap; refine (inRange_any _ _ _ _).mono ?_; rw [h2]; rintro e w' ⟨rfl, rfl⟩))
    go_ret
    exact AnsK.nil_ rfl N1.out
theorem STrackSizes_ans (A : Option Addr) (n c : Nat) (zs : List Int) (space gap : Int) (hn : n ≤ 1048576) (w : World) (hx : Sts 2 w A n zs) :
    Calls Try.prog 26 #[.slice A n c, .int .i64 space, .int .i64 gap] w (Ans w (tsA n zs space gap)) :=
  (STrackSizes_ansK A n c zs space gap hn w hx).mono fun _ _ h => h.ans
end Go.Proofs.Ytcoddhlfhmelkaa
