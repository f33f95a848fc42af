/- How many points rectangles have together: PaintArea of the reference, walked. Condition: the row can be read. -/
import Derived.Test.YtckdokijmlpngaaPaiN
import Derived.Test.YtckdokijmlpngaaRectB
import Derived.Test.YtckdokijmlpngaaPntV
import Derived.Test.YtckdokijmlpngaaRectH
namespace Go.Proofs.Ytckdokijmlpngaa
open Go.RowKit

set_option maxHeartbeats 1000000 in
theorem toInt_any (b : Bool) (w : World) :
    Calls Try.prog 48 #[.bool (!b)] w fun e w' => e = .returned (.int .i64 (oneIf b)) ∧ w = w' := by
  cases b
  · go_enter Try.func48, Try.ntmps48
    go_wp2
    go_ret
    exact ⟨rfl, rfl⟩
  · go_enter Try.func48, Try.ntmps48
    go_wp2
    go_ret
    exact ⟨rfl, rfl⟩
set_option maxHeartbeats 2000000 in
theorem first_any (A : Option Addr) (n c m : Nat) (x y : Int) (zs : List Int) (hmn : m ≤ n) (hn : n ≤ 6) (w : World) (hx : Sts 4 w A n zs) (ok : ∀ k, k < n → rOk zs k = true) :
    Calls Try.prog 49 #[.slice A n c, .int .i64 (m : Int), .int .i64 x, .int .i64 y] w fun e w' => e = .returned (.bool (!(inN m zs x y))) ∧ New w w' := by
  have HX := Lib.hid hx; have OK := Lib.hid ok
  clear hx ok
  have m6 : (m : Int) ≤ 6 := by omega
  go_enter Try.func49, Try.ntmps49
  go_wp2
  go_loopw [9] (fun i wr => ∃ k : Nat, k ≤ m ∧ i = .int .i64 (k : Int) ∧ Hid (∀ j, j < k → inK zs x y j = false) ∧ Hid (New w wr)) (fun i _ => m - (intOf i).toNat)
  case atStart => exact ⟨0, Nat.zero_le _, rfl, Lib.hid (fun j h => absurd h (by omega)), Lib.hid (New.refl _)⟩
  case round =>
    obtain ⟨k, hk, rfl, HA, HN⟩ := hrel
    have k0 : (0 : Int) ≤ (k : Int) := by omega
    by_cases hlt' : k < m
    · have hlt : k < n := by omega
      have k1 : (k : Int) < (n : Int) := by omega
      have k2 : (k : Int) < (m : Int) := by omega
      obtain ⟨b, off, rfl, hb, hc⟩ := HX.out.at_ (by omega)
      have g0 : wr.cell? ⟨b, off + k * 4, none⟩ = some (.int .i64 (zs.getD (k * 4) 0)) := (HN.out.cells b _ hb).trans (hc (k * 4) (by have := idx_lt (m := 4) (j := 0) hlt (by omega); omega))
      have g1 : wr.cell? ⟨b, off + k * 4 + 1, none⟩ = some (.int .i64 (zs.getD (k * 4 + 1) 0)) := (HN.out.cells b _ hb).trans (hc (k * 4 + 1) (by have := idx_lt (m := 4) (j := 1) hlt (by omega); omega))
      have g2 : wr.cell? ⟨b, off + k * 4 + 2, none⟩ = some (.int .i64 (zs.getD (k * 4 + 2) 0)) := (HN.out.cells b _ hb).trans (hc (k * 4 + 2) (by have := idx_lt (m := 4) (j := 2) hlt (by omega); omega))
      have g3 : wr.cell? ⟨b, off + k * 4 + 3, none⟩ = some (.int .i64 (zs.getD (k * 4 + 3) 0)) := (HN.out.cells b _ hb).trans (hc (k * 4 + 3) (by have := idx_lt (m := 4) (j := 3) hlt (by omega); omega))
      have hv := OK.out k hlt
      clear hc
      cases hin : inK zs x y k
      · have HA2 := Lib.hid (fun j (hj : j < k + 1) => (Nat.lt_or_eq_of_le (Nat.le_of_lt_succ hj)).elim (fun h => HA.out j h) (fun e => by rw [e]; exact hin) : ∀ j, j < k + 1 → inK zs x y j = false)
        unfold inK at hin
        unfold rOk at hv
        generalize zs.getD (k * 4) 0 = y0 at g0 hin hv
        generalize zs.getD (k * 4 + 1) 0 = y1 at g1 hin hv
        generalize zs.getD (k * 4 + 2) 0 = y2 at g2 hin hv
        generalize zs.getD (k * 4 + 3) 0 = y3 at g3 hin hv
        have HI := Lib.hid hin; have HV := Lib.hid hv
        clear hin hv
        go_wp2_with (go_at_call 67; refine (sinRect_any _ _ _ _ _ _ _ HV.out).mono ?_; rw [HI.out]; rintro e w2 ⟨rfl, h2⟩; (have H2 := Lib.hid h2); clear h2)
        go_roundw
        case rel => exact ⟨k + 1, by omega, by go_num, HA2, Lib.hid (HN.out.trans H2.out)⟩
        case measure => simp [intOf]; omega
      · have HF := Lib.hid (show inN m zs x y = true from anyTo_iff.2 ⟨k, hlt', hin⟩)
        unfold inK at hin
        unfold rOk at hv
        generalize zs.getD (k * 4) 0 = y0 at g0 hin hv
        generalize zs.getD (k * 4 + 1) 0 = y1 at g1 hin hv
        generalize zs.getD (k * 4 + 2) 0 = y2 at g2 hin hv
        generalize zs.getD (k * 4 + 3) 0 = y3 at g3 hin hv
        have HI := Lib.hid hin; have HV := Lib.hid hv
        clear hin hv
        go_wp2_with (go_at_call 67; refine (sinRect_any _ _ _ _ _ _ _ HV.out).mono ?_; rw [HI.out]; rintro e w2 ⟨rfl, h2⟩; (have H2 := Lib.hid h2); clear h2)
        go_ret
        exact ⟨ret_bool (by rw [HF.out]; rfl), HN.out.trans H2.out⟩
    · obtain rfl : k = m := by omega
      have HF := Lib.hid (show inN k zs x y = false from anyTo_no HA.out)
      go_wp2
      go_ret
      exact ⟨ret_bool (by rw [HF.out]; rfl), HN.out⟩
/-- All are valid, and no side is too great. -/
def okC (zs : List Int) (k : Nat) : Bool := rOk zs k && ctOk zs k
theorem okC_iff {zs : List Int} {k : Nat} : okC zs k = true ↔ rOk zs k = true ∧ ctOk zs k = true := by unfold okC; rw [Bool.and_eq_true]
theorem paB_noC {n k : Nat} {zs : List Int} (hk : k < n) (h : okC zs k = false) : paB n zs = false := by
  rw [Bool.eq_false_iff]; intro e
  have := paB_iff.1 e
  rw [okC_iff.2 ⟨this.2.1 k hk, this.2.2 k hk⟩] at h; cases h
set_option maxRecDepth 100000 in
set_option maxHeartbeats 4000000 in
theorem SPaintArea_any (A : Option Addr) (n c : Nat) (zs : List Int) (hn : n ≤ 1048576) (w : World) (hx : Sts 4 w A n zs) :
    Calls Try.prog 27 #[.slice A n c] w fun e w' => e = .returned (.int .i64 (paA n zs)) ∧ New w w' := by
  have HX := Lib.hid hx
  clear hx
  by_cases h6 : (n : Int) ≤ 6
  rotate_left
  · have E := Lib.hid (paA_no (paB_no1 (show rsB 6 n zs = false by unfold rsB; rw [decide_eq_false h6, Bool.false_and])))
    have h7 : (6 : Int) < (n : Int) := by omega
    go_enter Try.func27, Try.ntmps27
    go_wp2
    go_ret
    exact ⟨ret_int E.out.symm, New.refl _⟩
  have P2 := Lib.hid (fun k (hk : k < n) (h : okC zs k = false) => paA_no (paB_noC hk h))
  have P1 := Lib.hid (fun (h : ∀ k, k < n → okC zs k = true) => paA_yes (paB_iff.2 ⟨h6, fun k hk => (okC_iff.1 (h k hk)).1, fun k hk => (okC_iff.1 (h k hk)).2⟩))
  go_enter Try.func27, Try.ntmps27
  go_wp2
  go_loopw [3] (fun i wr => ∃ k : Nat, k ≤ n ∧ i = .int .i64 (k : Int) ∧ Hid (∀ j, j < k → okC zs j = true) ∧ Hid (New w wr)) (fun i _ => n - (intOf i).toNat)
  case atStart => exact ⟨0, Nat.zero_le _, rfl, Lib.hid (fun j h => absurd h (by omega)), Lib.hid (New.refl _)⟩
  case round =>
    obtain ⟨k, hk, rfl, HA, HN⟩ := hrel
    have k0 : (0 : Int) ≤ (k : Int) := by omega
    by_cases hlt : k < n
    · have k1 : (k : Int) < (n : Int) := by omega
      obtain ⟨b, off, rfl, hb, hc⟩ := HX.out.at_ (by omega)
      have hbw : b < wr.heap.size := Nat.lt_of_lt_of_le hb HN.out.le
      have g0 : wr.cell? ⟨b, off + k * 4, none⟩ = some (.int .i64 (zs.getD (k * 4) 0)) := (HN.out.cells b _ hb).trans (hc (k * 4) (by have := idx_lt (m := 4) (j := 0) hlt (by omega); omega))
      have g1 : wr.cell? ⟨b, off + k * 4 + 1, none⟩ = some (.int .i64 (zs.getD (k * 4 + 1) 0)) := (HN.out.cells b _ hb).trans (hc (k * 4 + 1) (by have := idx_lt (m := 4) (j := 1) hlt (by omega); omega))
      have g2 : wr.cell? ⟨b, off + k * 4 + 2, none⟩ = some (.int .i64 (zs.getD (k * 4 + 2) 0)) := (HN.out.cells b _ hb).trans (hc (k * 4 + 2) (by have := idx_lt (m := 4) (j := 2) hlt (by omega); omega))
      have g3 : wr.cell? ⟨b, off + k * 4 + 3, none⟩ = some (.int .i64 (zs.getD (k * 4 + 3) 0)) := (HN.out.cells b _ hb).trans (hc (k * 4 + 3) (by have := idx_lt (m := 4) (j := 3) hlt (by omega); omega))
      have FAIL := Lib.hid (P2.out k hlt)
      have STEP := Lib.hid (fun (h : okC zs k = true) => allTo_step HA.out h)
      have OE := Lib.hid (show okC zs k = (vR (zs.getD (k * 4) 0) (zs.getD (k * 4 + 1) 0) (zs.getD (k * 4 + 2) 0) (zs.getD (k * 4 + 3) 0) && decide (zs.getD (k * 4 + 2) 0 ≤ 40 ∧ zs.getD (k * 4 + 3) 0 ≤ 40)) from rfl)
      clear hc hb
      generalize zs.getD (k * 4) 0 = y0 at g0 OE
      generalize zs.getD (k * 4 + 1) 0 = y1 at g1 OE
      generalize zs.getD (k * 4 + 2) 0 = y2 at g2 OE
      generalize zs.getD (k * 4 + 3) 0 = y3 at g3 OE
      cases hv : vR y0 y1 y2 y3
      · rw [hv] at OE
        have E := Lib.hid (FAIL.out (by rw [OE.out]; rfl))
        have HV := Lib.hid hv
        go_wp2_with (go_at_call 45; refine (validRect_any _ _ _ _ _).mono ?_; rw [HV.out]; rintro e w2 ⟨rfl, h2⟩; (have H2 := Lib.hid h2); clear h2)
        go_ret
        exact ⟨ret_int E.out.symm, HN.out.trans H2.out⟩
      have HV := Lib.hid hv
      rw [hv, Bool.true_and] at OE
      have vb := vR_iff.1 hv
      clear hv
      by_cases h2 : y2 ≤ 40
      rotate_left
      · have E := Lib.hid (FAIL.out (by rw [OE.out]; exact decide_eq_false (fun h => h2 h.1)))
        have h3 : 40 < y2 := by omega
        go_wp2_with (go_at_call 45; refine (validRect_any _ _ _ _ _).mono ?_; rw [HV.out]; rintro e w2 ⟨rfl, h2⟩; (have c2 := h2.cells); (have H2 := Lib.hid h2); clear h2)
        go_ret
        exact ⟨ret_int E.out.symm, HN.out.trans H2.out⟩
      by_cases h3 : y3 ≤ 40
      rotate_left
      · have E := Lib.hid (FAIL.out (by rw [OE.out]; exact decide_eq_false (fun h => h3 h.2)))
        have h4 : 40 < y3 := by omega
        go_wp2_with (go_at_call 45; refine (validRect_any _ _ _ _ _).mono ?_; rw [HV.out]; rintro e w2 ⟨rfl, h2⟩; (have c2 := h2.cells); (have H2 := Lib.hid h2); clear h2)
        go_ret
        exact ⟨ret_int E.out.symm, HN.out.trans H2.out⟩
      have HS := Lib.hid (STEP.out (by rw [OE.out]; exact decide_eq_true ⟨h2, h3⟩))
      go_wp2_with (go_at_call 45; refine (validRect_any _ _ _ _ _).mono ?_; rw [HV.out]; rintro e w2 ⟨rfl, h2⟩; (have c2 := h2.cells); (have H2 := Lib.hid h2); clear h2)
      go_roundw
      case rel => exact ⟨k + 1, by omega, by go_num, HS, Lib.hid (HN.out.trans H2.out)⟩
      case measure => simp [intOf]; omega
    · obtain rfl : n = k := by omega
      have E := Lib.hid (P1.out HA.out)
      have OK := Lib.hid (fun k hk => (okC_iff.1 (HA.out k hk)).1)
      have CT := Lib.hid (fun k hk => (okC_iff.1 (HA.out k hk)).2)
      have N1 := HN
      obtain ⟨w1, rfl⟩ : ∃ x, x = wr := ⟨wr, rfl⟩
      have HX1 := Lib.hid (HX.out.new N1.out)
      clear HN HA P1 P2 HX
      go_wp2
      go_loopw [4, 5] (fun cv i wr => ∃ k : Nat, k ≤ n ∧ i = .int .i64 (k : Int) ∧ cv = .int .i64 (arTo zs k) ∧ Hid (New w1 wr)) (fun _ i _ => n - (intOf i).toNat)
      case atStart => exact ⟨0, Nat.zero_le _, rfl, rfl, Lib.hid (New.refl _)⟩
      case round =>
        obtain ⟨k, hk, rfl, rfl, HN⟩ := hrel
        obtain ⟨w2, rfl⟩ : ∃ x, x = wr := ⟨wr, rfl⟩
        have AB := arTo_bd (fun j hj => OK.out j (Nat.lt_of_lt_of_le hj hk)) (fun j hj => CT.out j (Nat.lt_of_lt_of_le hj hk))
        have k0 : (0 : Int) ≤ (k : Int) := by omega
        by_cases hlt : k < n
        · have k1 : (k : Int) < (n : Int) := by omega
          obtain ⟨b, off, rfl, hb, hc⟩ := HX1.out.at_ (by omega)
          have HX2 := Lib.hid (HX1.out.new HN.out)
          have g0 : w2.cell? ⟨b, off + k * 4, none⟩ = some (.int .i64 (zs.getD (k * 4) 0)) := (HN.out.cells b _ hb).trans (hc (k * 4) (by have := idx_lt (m := 4) (j := 0) hlt (by omega); omega))
          have g1 : w2.cell? ⟨b, off + k * 4 + 1, none⟩ = some (.int .i64 (zs.getD (k * 4 + 1) 0)) := (HN.out.cells b _ hb).trans (hc (k * 4 + 1) (by have := idx_lt (m := 4) (j := 1) hlt (by omega); omega))
          have g2 : w2.cell? ⟨b, off + k * 4 + 2, none⟩ = some (.int .i64 (zs.getD (k * 4 + 2) 0)) := (HN.out.cells b _ hb).trans (hc (k * 4 + 2) (by have := idx_lt (m := 4) (j := 2) hlt (by omega); omega))
          have g3 : w2.cell? ⟨b, off + k * 4 + 3, none⟩ = some (.int .i64 (zs.getD (k * 4 + 3) 0)) := (HN.out.cells b _ hb).trans (hc (k * 4 + 3) (by have := idx_lt (m := 4) (j := 3) hlt (by omega); omega))
          have vb := vR_iff.1 (OK.out k hlt)
          have cb := of_decide_eq_true (CT.out k hlt)
          have AS := Lib.hid (arTo_step zs k)
          have RE := Lib.hid (show rArea zs k = cnY k zs (zs.getD (k * 4) 0) (zs.getD (k * 4 + 1) 0) (zs.getD (k * 4 + 2) 0).toNat (zs.getD (k * 4 + 3) 0).toNat from rfl)
          have hbw : b < w2.heap.size := Nat.lt_of_lt_of_le hb HN.out.le
          clear hc hb
          generalize zs.getD (k * 4) 0 = y0 at g0 RE vb cb
          generalize zs.getD (k * 4 + 1) 0 = y1 at g1 RE vb cb
          generalize zs.getD (k * 4 + 2) 0 = y2 at g2 RE vb cb
          generalize zs.getD (k * 4 + 3) 0 = y3 at g3 RE vb cb
          obtain ⟨ww, e2⟩ : ∃ m : Nat, y2 = (m : Int) := ⟨y2.toNat, by omega⟩
          obtain ⟨hh, e3⟩ : ∃ m : Nat, y3 = (m : Int) := ⟨y3.toNat, by omega⟩
          subst e2; subst e3
          rw [Int.toNat_natCast, Int.toNat_natCast] at RE
          have CELL := Lib.hid (fun W (hW : New w2 W) => (show W.cell? ⟨b, off + k * 4, none⟩ = some (.int .i64 y0) ∧ W.cell? ⟨b, off + k * 4 + 1, none⟩ = some (.int .i64 y1) ∧ W.cell? ⟨b, off + k * 4 + 2, none⟩ = some (.int .i64 (ww : Int)) ∧ W.cell? ⟨b, off + k * 4 + 3, none⟩ = some (.int .i64 (hh : Int)) from ⟨(hW.cells b _ hbw).trans g0, (hW.cells b _ hbw).trans g1, (hW.cells b _ hbw).trans g2, (hW.cells b _ hbw).trans g3⟩))
          have FI := Lib.hid (fun W (hW : New w2 W) (x y : Int) => first_any (some ⟨b, off, none⟩) n c k x y zs hk (by omega) W (HX2.out.new hW) OK.out)
          have w40 : (ww : Int) ≤ 40 := cb.1
          have h40 : (hh : Int) ≤ 40 := cb.2
          have v1 : -100000 ≤ y0 ∧ y0 ≤ 100000 := ⟨vb.1, vb.2.1⟩
          have v2 : -100000 ≤ y1 ∧ y1 ≤ 100000 := ⟨vb.2.2.1, vb.2.2.2.1⟩
          have n6 : (n : Int) ≤ 6 := h6
          clear vb cb
          generalize hAT : arTo zs k = AT at *
          have HAT := Lib.hid hAT
          clear hAT
          go_wp2
          clear g0 g1 g2 g3
          go_loopw [4, 6] (fun cv yv wr => ∃ j : Nat, j ≤ hh ∧ yv = .int .i64 (y1 + (j : Int)) ∧ cv = .int .i64 (AT + cnY k zs y0 y1 ww j) ∧ Hid (New w2 wr)) (fun _ yv _ => (y1 + (hh : Int) - intOf yv).toNat)
          case atStart => exact ⟨0, Nat.zero_le _, by simp, by simp [cnY], Lib.hid (New.refl _)⟩
          case round =>
            obtain ⟨j, hj, rfl, rfl, HNj⟩ := hrel
            obtain ⟨w3, rfl⟩ : ∃ x, x = wr := ⟨wr, rfl⟩
            obtain ⟨g0, g1, g2, g3⟩ := CELL.out _ HNj.out
            have hb3 : b < w3.heap.size := Nat.lt_of_lt_of_le hbw HNj.out.le
            have CB := cnY_40 k zs y0 y1 (m := ww) (k := j) (by omega) (by omega)
            have j0 : (0 : Int) ≤ (j : Int) := by omega
            have jh : (j : Int) ≤ (hh : Int) := by omega
            by_cases jlt : j < hh
            · have j1 : (j : Int) < (hh : Int) := by omega
              have CS := Lib.hid (cnY_step k zs y0 y1 ww j)
              have CB2 := cnY_40 k zs y0 y1 (m := ww) (k := j + 1) (by omega) (by omega)
              generalize hC0 : cnY k zs y0 y1 ww j = C0 at *
              have HC0 := Lib.hid hC0
              clear hC0
              have jd : decide (j < hh) = true := decide_eq_true jlt
              go_wp2
              go_quiet (fail)
              have NQ := Lib.hid (HNj.out.drewN nq)
              generalize w3.drewN nq = w4 at NQ ⊢
              clear g0 g1 g2 g3 HNj
              obtain ⟨g0, g1, g2, g3⟩ := CELL.out _ NQ.out
              go_wp2
              clear g0 g1 g2 g3
              go_loopw [4, 7] (fun cv xv wr => ∃ i : Nat, i ≤ ww ∧ xv = .int .i64 (y0 + (i : Int)) ∧ cv = .int .i64 (AT + (C0 + cnX k zs y0 (y1 + (j : Int)) i)) ∧ Hid (New w2 wr)) (fun _ xv _ => (y0 + (ww : Int) - intOf xv).toNat)
              case atStart => exact ⟨0, Nat.zero_le _, by simp, by simp [cnX], NQ⟩
              case round =>
                obtain ⟨i, hi, rfl, rfl, HNi⟩ := hrel
                obtain ⟨g0, g1, g2, g3⟩ := CELL.out _ HNi.out
                have XB := cnX_bd k zs y0 (y1 + (j : Int)) i
                have i0 : (0 : Int) ≤ (i : Int) := by omega
                have iw : (i : Int) ≤ (ww : Int) := by omega
                by_cases ilt : i < ww
                · have i1 : (i : Int) < (ww : Int) := by omega
                  have XS := Lib.hid (cnX_step k zs y0 (y1 + (j : Int)) i)
                  have XB2 := cnX_bd k zs y0 (y1 + (j : Int)) (i + 1)
                  have FC := Lib.hid (fun W (hW : New w2 W) => FI.out W hW (y0 + (i : Int)) (y1 + (j : Int)))
                  generalize hC1 : cnX k zs y0 (y1 + (j : Int)) i = C1 at *
                  have HC1 := Lib.hid hC1
                  clear hC1
                  have oi : 0 ≤ oneIf (inN k zs (y0 + (i : Int)) (y1 + (j : Int))) ∧ oneIf (inN k zs (y0 + (i : Int)) (y1 + (j : Int))) ≤ 1 := by unfold oneIf; split <;> omega
                  generalize inN k zs (y0 + (i : Int)) (y1 + (j : Int)) = bo at *
                  go_wp2
                  go_quiet (fail)
                  have NQ := Lib.hid (HNi.out.drewN nq)
                  generalize wr.drewN nq = w5 at NQ ⊢
                  clear g0 g1 g2 g3 HNi
                  go_wp2_with (first | (go_at_call 49; refine (FC.out _ NQ.out).mono ?_; rintro e w6 ⟨rfl, h6⟩; (have N6 := Lib.hid (NQ.out.trans h6)); clear h6) | (go_at_call 48; refine (toInt_any bo _).mono ?_; rintro e w7 ⟨rfl, rfl⟩))
                  go_roundw
                  case rel => exact ⟨i + 1, by omega, by go_num, by rw [XS.out]; go_num, N6⟩
                  case measure => simp [intOf]; omega
                · obtain rfl : ww = i := by omega
                  go_wp2
                  go_quiet (fail)
                  have NQ := Lib.hid (HNi.out.drewN nq)
                  generalize wr.drewN nq = w5 at NQ ⊢
                  clear g0 g1 g2 g3 HNi
                  go_wp2
                  go_roundw
                  case rel => exact ⟨j + 1, by omega, by go_num, by rw [CS.out], NQ⟩
                  case measure => simp [intOf]; omega
            · obtain rfl : hh = j := by omega
              go_wp2
              go_quiet (fail)
              have NQ := Lib.hid (HNj.out.drewN nq)
              generalize w3.drewN nq = w4 at NQ ⊢
              clear g0 g1 g2 g3 HNj
              go_wp2
              go_roundw
              case rel => exact ⟨k + 1, by omega, by go_num, by rw [AS.out, RE.out], Lib.hid (HN.out.trans NQ.out)⟩
              case measure => simp [intOf]; omega
        · obtain rfl : n = k := by omega
          go_wp2
          go_ret
          exact ⟨ret_int E.out.symm, N1.out.trans HN.out⟩
end Go.Proofs.Ytckdokijmlpngaa
