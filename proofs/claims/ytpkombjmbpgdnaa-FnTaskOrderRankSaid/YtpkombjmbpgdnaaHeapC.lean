/- What the queue's own functions do: how far a task is, which of two is sooner, two tasks exchanged. Conditions: the queue is the call's own; its tasks are valid. -/
import Derived.Test.YtpkombjmbpgdnaaHeapQ
import Derived.Deep.RegionHeld3
import Derived.IntWalk
namespace Go.Proofs.Ytpkombjmbpgdnaa
open Go.RowKit

theorem distance_any (i r a : Int) (hr : 0 ≤ r ∧ r ≤ 50) (ha : 0 ≤ a ∧ a ≤ 20) (w : World) :
    Calls Try.prog 73 #[.agg #[.int .i64 i, .int .i64 r, .int .i64 a]] w fun e w' => e = .returned (.int .i64 (r - 4 * a)) ∧ New w w' := by
  obtain ⟨r0, r1⟩ := hr
  obtain ⟨a0, a1⟩ := ha
  go_enter Try.func73, Try.ntmps73
  go_wp2
  go_ret
  exact ⟨rfl, by (repeat (first | exact New.refl _ | assumption | refine New.alloc ?_ _ | refine New.drew ?_ | refine New.drewN ?_ _ | refine New.setCell ?_ (by first | omega | (simp; omega) | (simp; done)) _ | refine New.trans ?_ (by assumption)))⟩
/-- How two numbers compare. -/
def cmpI (a b : Int) : Int := if a < b then -1 else if b < a then 1 else 0
set_option maxHeartbeats 1000000 in
theorem isNaN_any (a : Int) (w : World) : Calls Try.prog 49 #[.int .i64 a] w fun e w' => e = .returned (.bool false) ∧ w = w' := by
  go_enter Try.func49, Try.ntmps49
  go_wp2
  go_ret
  exact ⟨by first | rfl | simp, rfl⟩
set_option maxHeartbeats 1000000 in
theorem Compare_any (a b : Int) (w : World) : Calls Try.prog 34 #[.int .i64 a, .int .i64 b] w fun e w' => e = .returned (.int .i64 (cmpI a b)) ∧ w = w' := by
  have A1 := Lib.hid (fun W => isNaN_any a W)
  have B1 := Lib.hid (fun W => isNaN_any b W)
  unfold cmpI
  by_cases h1 : a < b
  · rw [if_pos h1]
    go_enter Try.func34, Try.ntmps34
    go_wp2_with fail
    refine (A1.out _).mono ?_
    rintro e w' ⟨rfl, rfl⟩
    go_wp2_with fail
    refine (B1.out _).mono ?_
    rintro e w' ⟨rfl, rfl⟩
    go_wp2
    go_ret
    exact ⟨rfl, rfl⟩
  · rw [if_neg h1]
    by_cases h2 : b < a
    · rw [if_pos h2]
      go_enter Try.func34, Try.ntmps34
      go_wp2_with fail
      refine (A1.out _).mono ?_
      rintro e w' ⟨rfl, rfl⟩
      go_wp2_with fail
      refine (B1.out _).mono ?_
      rintro e w' ⟨rfl, rfl⟩
      go_wp2
      go_ret
      exact ⟨rfl, rfl⟩
    · rw [if_neg h2]
      go_enter Try.func34, Try.ntmps34
      go_wp2_with fail
      refine (A1.out _).mono ?_
      rintro e w' ⟨rfl, rfl⟩
      go_wp2_with fail
      refine (B1.out _).mono ?_
      rintro e w' ⟨rfl, rfl⟩
      go_wp2
      go_ret
      exact ⟨rfl, rfl⟩
theorem cmpI_bd (a b : Int) : -1 ≤ cmpI a b ∧ cmpI a b ≤ 1 := by unfold cmpI; split; omega; split <;> omega
set_option maxHeartbeats 1000000 in
theorem byId_any (i r a j s b : Int) (w : World) :
    Calls Try.prog 22 #[.agg #[.int .i64 i, .int .i64 r, .int .i64 a], .agg #[.int .i64 j, .int .i64 s, .int .i64 b]] w fun e w' => e = .returned (.int .i64 (cmpI i j)) ∧ New w w' := by
  go_enter Try.func22, Try.ntmps22
  go_wp2_with fail
  refine (Compare_any _ _ _).mono ?_
  rintro e w' ⟨rfl, rfl⟩
  go_wp2
  go_ret
  exact ⟨rfl, by (repeat (first | exact New.refl _ | assumption | refine New.alloc ?_ _ | refine New.drew ?_ | refine New.drewN ?_ _ | refine New.setCell ?_ (by first | omega | (simp; omega) | (simp; done)) _ | refine New.trans ?_ (by assumption)))⟩
/-- The first of two numbers that is not 0. -/
def orI (a b : Int) : Int := if a = 0 then b else a
set_option maxHeartbeats 1000000 in
theorem Or_any (g c : Nat) (a b : Int) (w : World) (h0 : w.cell? ⟨g, 0, none⟩ = some (.int .i64 a)) (h1 : w.cell? ⟨g, 1, none⟩ = some (.int .i64 b)) :
    Calls Try.prog 78 #[.slice (some ⟨g, 0, none⟩) 2 c] w fun e w' => e = .returned (.int .i64 (orI a b)) ∧ w = w' := by
  by_cases ha : a = 0
  · subst ha
    have E : Hid (orI 0 b = b) := Lib.hid (if_pos rfl)
    by_cases hb : b = 0
    · subst hb
      have H0 := Lib.hid h0; have H1 := Lib.hid h1
      clear h0 h1
      go_enter Try.func78, Try.ntmps78
      go_wp2
      go_loop [8] (fun i => ∃ k : Nat, k ≤ 2 ∧ i = .int .i64 k) (fun i => 2 - (intOf i).toNat)
      case atStart => exact ⟨0, by omega, rfl⟩
      case round =>
        obtain ⟨k, hk, rfl⟩ := hrel
        have c0 := H0.out
        have c1 := H1.out
        rcases (show k = 0 ∨ k = 1 ∨ k = 2 by omega) with rfl | rfl | rfl
        · go_wp2
          go_round
          case rel => exact ⟨1, by omega, rfl⟩
          case measure => simp [intOf]
        · go_wp2
          go_round
          case rel => exact ⟨2, by omega, rfl⟩
          case measure => simp [intOf]
        · go_wp2
          go_ret
          exact ⟨by rw [E.out]; rfl, rfl⟩
    · have hb1 : (b != 0) = true := by simpa using hb
      have H0 := Lib.hid h0; have H1 := Lib.hid h1
      clear h0 h1 hb
      go_enter Try.func78, Try.ntmps78
      go_wp2
      go_loop [8] (fun i => ∃ k : Nat, k ≤ 1 ∧ i = .int .i64 k) (fun i => 2 - (intOf i).toNat)
      case atStart => exact ⟨0, by omega, rfl⟩
      case round =>
        obtain ⟨k, hk, rfl⟩ := hrel
        have c0 := H0.out
        have c1 := H1.out
        rcases (show k = 0 ∨ k = 1 by omega) with rfl | rfl
        · go_wp2
          go_round
          case rel => exact ⟨1, by omega, rfl⟩
          case measure => simp [intOf]
        · go_wp2
          go_ret
          exact ⟨by rw [E.out]; rfl, rfl⟩
  · have E : Hid (orI a b = a) := Lib.hid (if_neg ha)
    have ha1 : (a != 0) = true := by simpa using ha
    have H0 := Lib.hid h0
    clear h0 h1 ha
    go_enter Try.func78, Try.ntmps78
    go_wp2
    go_loop [8] (fun i => i = .int .i64 0) (fun i => 2 - (intOf i).toNat)
    case atStart => rfl
    case round =>
      subst hrel
      have c0 := H0.out
      go_wp2
      go_ret
      exact ⟨by rw [E.out]; rfl, rfl⟩
theorem or_lt (a b : Tk) : decide (orI (cmpI (key a) (key b)) (cmpI a.1 b.1) < 0) = ltB a b := by
  have h : (orI (cmpI (key a) (key b)) (cmpI a.1 b.1) < 0) ↔ ltK a b := by
    unfold ltK orI cmpI
    repeat' split
    all_goals omega
  exact decide_eq_decide.2 h
end Go.Proofs.Ytpkombjmbpgdnaa
