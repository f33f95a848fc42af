/- The check of the parts of wrapped lines, in the program and in the reference, walked. Condition: they can be read. -/
import Derived.Test.YtpkajdnndognnaaPrtO
import Derived.Test.YtpkajdnndognnaaPrtS
import Derived.Test.YtpkajdnndognnaaInts2
import Derived.Deep.RegionWith
namespace Go.Proofs.Ytpkajdnndognnaa
open Go.RowKit

set_option maxHeartbeats 1000000 in
theorem Part_valid_any (s p : Int) (w : World) :
    Calls Try.prog 55 #[.agg #[.int .i64 s, .int .i64 p]] w fun e w' => e = .returned (.bool (okPr s p)) ∧ New w w' := by
  go_enter Try.func55, Try.ntmps55
  go_wp2_with (go_at_call 67; refine (within_any _ _ _ _).mono ?_; rintro e w' ⟨rfl, rfl⟩)
  all_goals (go_ret; exact ⟨ret_bool (by unfold okPr; rw [Bool.eq_iff_iff]; simp at *; omega), by (repeat (first | exact New.refl _ | assumption | refine New.alloc ?_ _ | refine New.drew ?_ | refine New.drewN ?_ _ | refine New.setCell ?_ (by first | omega | (simp; omega) | (simp; done)) _ | refine New.trans ?_ (by assumption)))⟩)
set_option maxHeartbeats 2000000 in
theorem ValidParts_any (A : Option Addr) (n c : Nat) (zs : List Int) (hn : n ≤ 1048576) (w : World) (hx : Sts 2 w A n zs) :
    Calls Try.prog 34 #[.slice A n c] w fun e w' => e = .returned (.bool (prsB n zs)) ∧ New w w' := by
  have HX := Lib.hid hx
  clear hx
  by_cases hr : (n : Int) ≤ 12
  · have E : Hid (prsB n zs = allTo n (prOk zs)) := Lib.hid (by unfold prsB; rw [decide_eq_true hr, Bool.true_and])
    have hd := decide_eq_true hr
    go_enter Try.func34, Try.ntmps34
    go_wp2
    go_loopw [10] (fun i wr => ∃ k : Nat, k ≤ n ∧ i = .int .i64 k ∧ Hid (∀ j, j < k → prOk zs j = true) ∧ Hid (New w wr)) (fun i _ => n - (intOf i).toNat)
    case atStart => exact ⟨0, Nat.zero_le _, rfl, Lib.hid (fun j h => absurd h (by omega)), Lib.hid (New.refl _)⟩
    case round =>
      obtain ⟨k, hk, rfl, HA, HN⟩ := hrel
      by_cases hlt : k < n
      · obtain ⟨b, off, rfl, hb, hc⟩ := HX.out.at_ (by omega)
        have g0 : wr.cell? ⟨b, off + k * 2, none⟩ = some (.int .i64 (zs.getD (k * 2) 0)) := (HN.out.cells b _ hb).trans (hc (k * 2) (by have := idx_lt (m := 2) (j := 0) hlt (by omega); omega))
        have g1 : wr.cell? ⟨b, off + k * 2 + 1, none⟩ = some (.int .i64 (zs.getD (k * 2 + 1) 0)) := (HN.out.cells b _ hb).trans (hc (k * 2 + 1) (by have := idx_lt (m := 2) (j := 1) hlt (by omega); omega))
        have k0 : (0 : Int) ≤ (k : Int) := by omega
        have k1 : (k : Int) < (n : Int) := by omega
        clear hc
        cases hok : prOk zs k
        · have HF := Lib.hid (allTo_no hlt hok)
          unfold prOk at hok
          generalize zs.getD (k * 2) 0 = y0 at g0 hok
          generalize zs.getD (k * 2 + 1) 0 = y1 at g1 hok
          have hok := Lib.hid hok
          go_wp2_with (go_at_call 55; refine (Part_valid_any _ _ _).mono ?_; rw [hok.out]; rintro e w2 ⟨rfl, h2⟩; (have H2 := Lib.hid h2); clear h2)
          go_ret
          exact ⟨ret_bool (E.out.trans HF.out).symm, New.trans (b := wr) HN.out (New.trans (by (repeat (first | exact New.refl _ | assumption | refine New.alloc ?_ _ | refine New.drew ?_ | refine New.drewN ?_ _ | refine New.setCell ?_ (by first | omega | (simp; omega) | (simp; done)) _ | refine New.trans ?_ (by assumption)))) H2.out)⟩
        · have HS := Lib.hid (allTo_step HA.out hok)
          unfold prOk at hok
          generalize zs.getD (k * 2) 0 = y0 at g0 hok
          generalize zs.getD (k * 2 + 1) 0 = y1 at g1 hok
          have hok := Lib.hid hok
          go_wp2_with (go_at_call 55; refine (Part_valid_any _ _ _).mono ?_; rw [hok.out]; rintro e w2 ⟨rfl, h2⟩; (have H2 := Lib.hid h2); clear h2)
          go_roundw
          case rel => exact ⟨k + 1, by omega, by go_num, HS, Lib.hid (New.trans (b := wr) HN.out (New.trans (by (repeat (first | exact New.refl _ | assumption | refine New.alloc ?_ _ | refine New.drew ?_ | refine New.drewN ?_ _ | refine New.setCell ?_ (by first | omega | (simp; omega) | (simp; done)) _ | refine New.trans ?_ (by assumption)))) H2.out))⟩
          case measure => simp [intOf]; omega
      · obtain rfl : k = n := by omega
        have HF := Lib.hid (allTo_iff.2 HA.out)
        go_wp2
        go_ret
        exact ⟨ret_bool (E.out.trans HF.out).symm, HN.out⟩
  · have E : prsB n zs = false := by unfold prsB; rw [decide_eq_false hr, Bool.false_and]
    have hd := decide_eq_false hr
    rw [E]
    have hr2 : 12 < (n : Int) := by omega
    clear E
    go_enter Try.func34, Try.ntmps34
    go_wp2
    go_ret
    exact ⟨rfl, New.refl _⟩
set_option maxRecDepth 100000 in
set_option maxHeartbeats 4000000 in
theorem SvalidParts_any (A : Option Addr) (n c : Nat) (zs : List Int) (hn : n ≤ 1048576) (w : World) (hx : Sts 2 w A n zs) :
    Calls Try.prog 56 #[.slice A n c] w fun e w' => e = .returned (.bool (prsB n zs)) ∧ New w w' := by
  have HX := Lib.hid hx
  clear hx
  go_enter Try.func56, Try.ntmps56
  go_wp2
  go_loopw [3] (fun i wr => ∃ k : Nat, k ≤ n ∧ i = .int .i64 k ∧ Hid (∀ j, j < k → prOk zs j = true) ∧ Hid (New w wr)) (fun i _ => n - (intOf i).toNat)
  case atStart => exact ⟨0, Nat.zero_le _, rfl, Lib.hid (fun j h => absurd h (by omega)), Lib.hid (New.refl _)⟩
  case round =>
    obtain ⟨k, hk, rfl, HA, HN⟩ := hrel
    by_cases hlt : k < n
    · obtain ⟨b, off, rfl, hb, hc⟩ := HX.out.at_ (by omega)
      have g0 : wr.cell? ⟨b, off + k * 2, none⟩ = some (.int .i64 (zs.getD (k * 2) 0)) := (HN.out.cells b _ hb).trans (hc (k * 2) (by have := idx_lt (m := 2) (j := 0) hlt (by omega); omega))
      have g1 : wr.cell? ⟨b, off + k * 2 + 1, none⟩ = some (.int .i64 (zs.getD (k * 2 + 1) 0)) := (HN.out.cells b _ hb).trans (hc (k * 2 + 1) (by have := idx_lt (m := 2) (j := 1) hlt (by omega); omega))
      have k0 : (0 : Int) ≤ (k : Int) := by omega
      have k1 : (k : Int) < (n : Int) := by omega
      clear hc
      have FAIL : Hid (prOk zs k = false → prsB n zs = false) := Lib.hid (fun h => by unfold prsB; rw [allTo_no hlt h, Bool.and_false])
      have STEP : Hid (prOk zs k = true → ∀ j, j < k + 1 → prOk zs j = true) := Lib.hid (fun h => allTo_step HA.out h)
      have OKE : Hid (prOk zs k = okPr (zs.getD (k * 2) 0) (zs.getD (k * 2 + 1) 0)) := Lib.hid rfl
      generalize zs.getD (k * 2) 0 = y0 at g0 OKE
      generalize zs.getD (k * 2 + 1) 0 = y1 at g1 OKE
      cases h1 : decide (0 ≤ y0 ∧ y0 ≤ 10000)
      · have V := Lib.hid (FAIL.out (by rw [OKE.out, Bool.eq_false_iff]; intro h; have := (okPr_iff.1 h).1; rw [decide_eq_true this] at h1; cases h1))
        have C1 := Lib.hid (fun (W : World) => (show Calls Try.prog 61 #[.int .i64 y0, .int .i64 0, .int .i64 10000] W fun e w' => e = .returned (.bool false) ∧ W = w' by have h := inRange_any y0 0 10000 W; rw [h1] at h; exact h))
        clear OKE FAIL STEP
        go_wp2_with (first | (go_at_call_of 61 y0; refine (C1.out _).mono ?_; rintro e w' ⟨rfl, rfl⟩))
        go_ret
        exact ⟨ret_bool V.out.symm, HN.out⟩
      cases h2 : decide (0 ≤ y1 ∧ y1 ≤ 10000)
      · have V := Lib.hid (FAIL.out (by rw [OKE.out, Bool.eq_false_iff]; intro h; have := (okPr_iff.1 h).2; rw [decide_eq_true this] at h2; cases h2))
        have C1 := Lib.hid (fun (W : World) => (show Calls Try.prog 61 #[.int .i64 y0, .int .i64 0, .int .i64 10000] W fun e w' => e = .returned (.bool true) ∧ W = w' by have h := inRange_any y0 0 10000 W; rw [h1] at h; exact h))
        have C2 := Lib.hid (fun (W : World) => (show Calls Try.prog 61 #[.int .i64 y1, .int .i64 0, .int .i64 10000] W fun e w' => e = .returned (.bool false) ∧ W = w' by have h := inRange_any y1 0 10000 W; rw [h2] at h; exact h))
        clear OKE FAIL STEP
        go_wp2_with (first | (go_at_call_of 61 y0; refine (C1.out _).mono ?_; rintro e w' ⟨rfl, rfl⟩) | (go_at_call_of 61 y1; refine (C2.out _).mono ?_; rintro e w' ⟨rfl, rfl⟩))
        go_ret
        exact ⟨ret_bool V.out.symm, HN.out⟩
      · have V := Lib.hid (STEP.out (by rw [OKE.out]; exact okPr_iff.2 ⟨of_decide_eq_true h1, of_decide_eq_true h2⟩))
        have C1 := Lib.hid (fun (W : World) => (show Calls Try.prog 61 #[.int .i64 y0, .int .i64 0, .int .i64 10000] W fun e w' => e = .returned (.bool true) ∧ W = w' by have h := inRange_any y0 0 10000 W; rw [h1] at h; exact h))
        have C2 := Lib.hid (fun (W : World) => (show Calls Try.prog 61 #[.int .i64 y1, .int .i64 0, .int .i64 10000] W fun e w' => e = .returned (.bool true) ∧ W = w' by have h := inRange_any y1 0 10000 W; rw [h2] at h; exact h))
        clear OKE FAIL STEP
        go_wp2_with (first | (go_at_call_of 61 y0; refine (C1.out _).mono ?_; rintro e w' ⟨rfl, rfl⟩) | (go_at_call_of 61 y1; refine (C2.out _).mono ?_; rintro e w' ⟨rfl, rfl⟩))
        go_roundw
        case rel => exact ⟨k + 1, by omega, by go_num, V, Lib.hid (HN.out)⟩
        case measure => simp [intOf]; omega
    · obtain rfl : k = n := by omega
      have HF := Lib.hid (allTo_iff.2 HA.out)
      have EF : Hid (prsB k zs = decide ((k : Int) ≤ 12)) := Lib.hid (by unfold prsB; rw [HF.out, Bool.and_true])
      go_wp2
      go_ret
      exact ⟨ret_bool (by rw [EF.out]), HN.out⟩
set_option maxHeartbeats 400000 in
theorem SValidParts_any (A : Option Addr) (n c : Nat) (zs : List Int) (hn : n ≤ 1048576) (w : World) (hx : Sts 2 w A n zs) :
    Calls Try.prog 35 #[.slice A n c] w fun e w' => e = .returned (.bool (prsB n zs)) ∧ New w w' := by
  have HX := Lib.hid hx
  clear hx
  go_enter Try.func35, Try.ntmps35
  go_wp2_with fail
  refine (SvalidParts_any A n c zs hn _ HX.out).mono ?_
  rintro e w2 ⟨rfl, h2⟩
  go_wp2
  go_ret
  exact ⟨rfl, h2⟩
end Go.Proofs.Ytpkajdnndognnaa
