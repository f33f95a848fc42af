/- How many points rectangles have together: PaintArea of the program, walked. Condition: the row can be read. -/
import Derived.Test.YtckdokijmlpngaaPaiN
import Derived.Test.YtckdokijmlpngaaPaiB
import Derived.Test.YtckdokijmlpngaaPntV
import Derived.Test.YtckdokijmlpngaaRectH
namespace Go.Proofs.Ytckdokijmlpngaa
open Go.RowKit

set_option maxHeartbeats 1000000 in
theorem isCountable_any (x y ww hh : Int) (w : World) :
    Calls Try.prog 50 #[.agg #[.int .i64 x, .int .i64 y, .int .i64 ww, .int .i64 hh]] w fun e w' => e = .returned (.bool (decide (ww ≤ 40 ∧ hh ≤ 40))) ∧ New w w' := by
  go_enter Try.func50, Try.ntmps50
  go_wp2
  all_goals (go_ret; exact ⟨ret_bool (by rw [Bool.eq_iff_iff]; simp at *; omega), by (repeat (first | exact New.refl _ | assumption | refine New.alloc ?_ _ | refine New.drew ?_ | refine New.drewN ?_ _ | refine New.setCell ?_ (by first | omega | (simp; omega) | (simp; done)) _ | refine New.trans ?_ (by assumption)))⟩)
set_option maxRecDepth 100000 in
set_option maxHeartbeats 4000000 in
theorem PaintArea_any (A : Option Addr) (n c : Nat) (zs : List Int) (hn : n ≤ 1048576) (hnc : n ≤ c) (w : World) (hx : Sts 4 w A n zs) :
    Calls Try.prog 28 #[.slice A n c] w fun e w' => e = .returned (.int .i64 (paA n zs)) ∧ New w w' := by
  have HX := Lib.hid hx
  clear hx
  cases h1 : rsB 6 n zs
  · have E := Lib.hid (paA_no (paB_no1 h1))
    have h1 := Lib.hid h1
    go_enter Try.func28, Try.ntmps28
    go_wp2_with fail
    refine (validRects_any A n c zs 6 hn _ HX.out).mono ?_
    rw [h1.out]
    rintro e w1 ⟨rfl, N1⟩
    go_wp2
    go_ret
    exact ⟨ret_int E.out.symm, N1⟩
  obtain ⟨n6, hok⟩ := rsB_iff.1 h1
  have OK := Lib.hid hok
  have P1 := Lib.hid (show allTo n (ctOk zs) = true → paA n zs = arTo zs n from fun h => paA_yes (by unfold paB; rw [h1, h]; rfl))
  have P2 := Lib.hid (fun k (hk : k < n) (h : ctOk zs k = false) => paA_no (paB_no2 hk h))
  have h1 := Lib.hid h1
  clear hok
  go_enter Try.func28, Try.ntmps28
  go_wp2_with fail
  refine (validRects_any A n c zs 6 hn _ HX.out).mono ?_
  rw [h1.out]
  rintro e w1 ⟨rfl, N1⟩
  have HX := Lib.hid (HX.out.new N1); have N1 := Lib.hid N1
  go_wp2
  go_loopw [3, 11] (fun o i wr => ∃ k : Nat, k ≤ n ∧ i = .int .i64 (k : Int) ∧ o = .int .i64 (arTo zs k) ∧ Hid (∀ j, j < k → ctOk zs j = true) ∧ Hid (New w1 wr)) (fun _ i _ => n - (intOf i).toNat)
  case atStart => exact ⟨0, Nat.zero_le _, rfl, rfl, Lib.hid (fun j h => absurd h (by omega)), Lib.hid (New.refl _)⟩
  case round =>
    obtain ⟨k, hk, rfl, rfl, HA, HN⟩ := hrel
    have AB := arTo_bd (fun j hj => OK.out j (by omega)) HA.out
    have k0 : (0 : Int) ≤ (k : Int) := by omega
    by_cases hlt : k < n
    · have k1 : (k : Int) < (n : Int) := by omega
      have k2 : (k : Int) ≤ (c : Int) := by omega
      have nc : (n : Int) ≤ (c : Int) := by omega
      obtain ⟨b, off, rfl, hb, hc⟩ := HX.out.at_ (by omega)
      have g0 : wr.cell? ⟨b, off + k * 4, none⟩ = some (.int .i64 (zs.getD (k * 4) 0)) := (HN.out.cells b _ hb).trans (hc (k * 4) (by have := idx_lt (m := 4) (j := 0) hlt (by omega); omega))
      have g1 : wr.cell? ⟨b, off + k * 4 + 1, none⟩ = some (.int .i64 (zs.getD (k * 4 + 1) 0)) := (HN.out.cells b _ hb).trans (hc (k * 4 + 1) (by have := idx_lt (m := 4) (j := 1) hlt (by omega); omega))
      have g2 : wr.cell? ⟨b, off + k * 4 + 2, none⟩ = some (.int .i64 (zs.getD (k * 4 + 2) 0)) := (HN.out.cells b _ hb).trans (hc (k * 4 + 2) (by have := idx_lt (m := 4) (j := 2) hlt (by omega); omega))
      have g3 : wr.cell? ⟨b, off + k * 4 + 3, none⟩ = some (.int .i64 (zs.getD (k * 4 + 3) 0)) := (HN.out.cells b _ hb).trans (hc (k * 4 + 3) (by have := idx_lt (m := 4) (j := 3) hlt (by omega); omega))
      have hv := OK.out k hlt
      have AS := Lib.hid (arTo_step zs k)
      clear hc
      cases hct : ctOk zs k
      · have E := Lib.hid (P2.out k hlt hct)
        unfold ctOk at hct
        clear hv AS
        generalize zs.getD (k * 4) 0 = y0 at g0
        generalize zs.getD (k * 4 + 1) 0 = y1 at g1
        generalize zs.getD (k * 4 + 2) 0 = y2 at g2 hct
        generalize zs.getD (k * 4 + 3) 0 = y3 at g3 hct
        have HC := Lib.hid hct
        clear hct
        go_wp2_with (go_at_call 50; refine (isCountable_any _ _ _ _ _).mono ?_; rw [HC.out]; rintro e w2 ⟨rfl, h2⟩; (have H2 := Lib.hid h2); clear h2)
        go_ret
        exact ⟨ret_int E.out.symm, N1.out.trans (HN.out.trans (New.trans (by (repeat (first | exact New.refl _ | assumption | refine New.alloc ?_ _ | refine New.drew ?_ | refine New.drewN ?_ _ | refine New.setCell ?_ (by first | omega | (simp; omega) | (simp; done)) _ | refine New.trans ?_ (by assumption)))) H2.out))⟩
      · have HA2 := Lib.hid (allTo_step HA.out hct)
        have RB := rArea_bd hv hct
        have BS := Lib.hid (fun W (hW : New w1 W) => (show Calls Try.prog 51 #[.agg #[.int .i64 (zs.getD (k * 4) 0), .int .i64 (zs.getD (k * 4 + 1) 0), .int .i64 (zs.getD (k * 4 + 2) 0), .int .i64 (zs.getD (k * 4 + 3) 0)], .slice (some ⟨b, off, none⟩) k c] W fun e w' => e = .returned (.int .i64 (rArea zs k)) ∧ New W w' from by
          have h := besideI_any (zs.getD (k * 4) 0) (zs.getD (k * 4 + 1) 0) (zs.getD (k * 4 + 2) 0) (zs.getD (k * 4 + 3) 0) (some ⟨b, off, none⟩) k c (zs.take (k * 4)) W hv (of_decide_eq_true hct).1 (of_decide_eq_true hct).2 (by omega)
            ⟨by rw [List.length_take, HX.out.len]; have := Nat.mul_le_mul_right 4 hk; omega, fun _ => ⟨b, off, rfl, Nat.lt_of_lt_of_le hb hW.le, fun i hi => by
              rw [getD_take_lt hi]
              obtain ⟨b', off', e, _, h⟩ := HX.out.at_ (by omega)
              simp only [Option.some.injEq, Addr.mk.injEq, and_true] at e
              obtain ⟨rfl, rfl⟩ := e
              exact (hW.cells b _ hb).trans (h i (by have := Nat.mul_le_mul_right 4 hk; omega))⟩⟩ (fun j hj => (rOk_take hj).trans (OK.out j (by omega)))
          rw [cnY_take] at h
          exact h))
        have HC := Lib.hid hct
        unfold ctOk at HC
        clear hv hct
        generalize hAR : rArea zs k = AR at *
        generalize hAT : arTo zs k = AT at *
        have HAT := Lib.hid hAT
        clear hAR hAT
        generalize zs.getD (k * 4) 0 = y0 at g0 BS
        generalize zs.getD (k * 4 + 1) 0 = y1 at g1 BS
        generalize zs.getD (k * 4 + 2) 0 = y2 at g2 BS HC
        generalize zs.getD (k * 4 + 3) 0 = y3 at g3 BS HC
        have RV := Lib.hid (Row.oneRect wr y0 y1 y2 y3 34)
        have NV := Lib.hid ((New.refl wr).alloc (.cells #[.int .i64 y0, .int .i64 y1, .int .i64 y2, .int .i64 y3] 34))
        go_wp2_with fail
        refine (isCountable_any _ _ _ _ _).mono ?_
        rw [HC.out]
        rintro e w2 ⟨rfl, h2⟩
        have RV := Lib.hid (RV.out.new h2)
        have NV := Lib.hid (HN.out.trans (NV.out.trans h2))
        clear h2
        go_wp2
        have KF := Lib.hid (fun W (hW : New w2 W) => (show W.cell? ⟨wr.heap.size, 0, none⟩ = some (.int .i64 y0) ∧ W.cell? ⟨wr.heap.size, 1, none⟩ = some (.int .i64 y1) ∧ W.cell? ⟨wr.heap.size, 2, none⟩ = some (.int .i64 y2) ∧ W.cell? ⟨wr.heap.size, 3, none⟩ = some (.int .i64 y3) from Row.allRect (RV.out.new hW)))
        have NW := Lib.hid (New.refl w2).drew
        have KK := KF.out _ NW.out
        go_region_held3 (fun w' => w'.cell? ⟨wr.heap.size, 0, none⟩ = some (.int .i64 y0) ∧ w'.cell? ⟨wr.heap.size, 1, none⟩ = some (.int .i64 y1) ∧ w'.cell? ⟨wr.heap.size, 2, none⟩ = some (.int .i64 y2) ∧ w'.cell? ⟨wr.heap.size, 3, none⟩ = some (.int .i64 y3))
          (first | exact KK | assumption)
          ((go_at_call 51; refine (BS.out _ (NV.out.trans NW.out)).mono ?_; rintro e w3 ⟨rfl, h3⟩; (have KK := KF.out w3 (NW.out.trans h3)); (replace NW := Lib.hid (NW.out.trans h3)); clear h3))
        go_wp2
        go_roundw
        case rel => exact ⟨k + 1, by omega, by go_num, by rw [AS.out, IntWalk.i64_in _ (by omega)], HA2, Lib.hid (NV.out.trans NW.out)⟩
        case measure => simp [intOf]; omega
    · obtain rfl : n = k := by omega
      have E := Lib.hid (P1.out (allTo_iff.2 HA.out))
      go_wp2
      go_ret
      exact ⟨ret_int E.out.symm, N1.out.trans HN.out⟩
end Go.Proofs.Ytckdokijmlpngaa
