/- The check of a row of rectangles, in the program and in the reference, walked. Condition: they can be read. -/
import Derived.Test.YtckdokijmlpngaaPntM
import Derived.Test.YtckdokijmlpngaaRect
import Derived.Deep.RegionWith
namespace Go.Proofs.Ytckdokijmlpngaa
open Go.RowKit

/-- Two rectangles are compared. -/
theorem neq_rect (y0 y1 y2 y3 z0 z1 z2 z3 : Int) (w : World) : (binOp .neq 34 (.agg #[.int .i64 y0, .int .i64 y1, .int .i64 y2, .int .i64 y3]) (.agg #[.int .i64 z0, .int .i64 z1, .int .i64 z2, .int .i64 z3])).run Try.prog w = Result.ok (.bool (!decide (y0 = z0 ∧ y1 = z1 ∧ y2 = z2 ∧ y3 = z3))) w := by
  by_cases e0 : y0 = z0
  · by_cases e1 : y1 = z1
    · by_cases e2 : y2 = z2
      · by_cases e3 : y3 = z3
        · simp [go_sem, e0, e1, e2, e3]
        · simp [go_sem, e0, e1, e2, e3]
      · simp [go_sem, e0, e1, e2]
    · simp [go_sem, e0, e1]
  · simp [go_sem, e0]
set_option maxHeartbeats 2000000 in
theorem validRects_any (A : Option Addr) (n c : Nat) (zs : List Int) (most : Int) (hn : n ≤ 1048576) (w : World) (hx : Sts 4 w A n zs) :
    Calls Try.prog 43 #[.slice A n c, .int .i64 most] w fun e w' => e = .returned (.bool (rsB most n zs)) ∧ New w w' := by
  have HX := Lib.hid hx
  clear hx
  by_cases hr : (n : Int) ≤ most
  · have E : Hid (rsB most n zs = allTo n (rOk zs)) := Lib.hid (by unfold rsB; rw [decide_eq_true hr, Bool.true_and])
    have hd := decide_eq_true hr
    have hd2 : decide (most < (n : Int)) = false := decide_eq_false (by omega)
    go_enter Try.func43, Try.ntmps43
    go_wp2
    go_loopw [13] (fun i wr => ∃ k : Nat, k ≤ n ∧ i = .int .i64 k ∧ Hid (∀ j, j < k → rOk zs j = true) ∧ Hid (New w wr)) (fun i _ => n - (intOf i).toNat)
    case atStart => exact ⟨0, Nat.zero_le _, rfl, Lib.hid (fun j h => absurd h (by omega)), Lib.hid (New.refl _)⟩
    case round =>
      obtain ⟨k, hk, rfl, HA, HN⟩ := hrel
      by_cases hlt : k < n
      · obtain ⟨b, off, rfl, hb, hc⟩ := HX.out.at_ (by omega)
        have g0 : wr.cell? ⟨b, off + k * 4, none⟩ = some (.int .i64 (zs.getD (k * 4) 0)) := (HN.out.cells b _ hb).trans (hc (k * 4) (by have := idx_lt (m := 4) (j := 0) hlt (by omega); omega))
        have g1 : wr.cell? ⟨b, off + k * 4 + 1, none⟩ = some (.int .i64 (zs.getD (k * 4 + 1) 0)) := (HN.out.cells b _ hb).trans (hc (k * 4 + 1) (by have := idx_lt (m := 4) (j := 1) hlt (by omega); omega))
        have g2 : wr.cell? ⟨b, off + k * 4 + 2, none⟩ = some (.int .i64 (zs.getD (k * 4 + 2) 0)) := (HN.out.cells b _ hb).trans (hc (k * 4 + 2) (by have := idx_lt (m := 4) (j := 2) hlt (by omega); omega))
        have g3 : wr.cell? ⟨b, off + k * 4 + 3, none⟩ = some (.int .i64 (zs.getD (k * 4 + 3) 0)) := (HN.out.cells b _ hb).trans (hc (k * 4 + 3) (by have := idx_lt (m := 4) (j := 3) hlt (by omega); omega))
        have k0 : (0 : Int) ≤ (k : Int) := by omega
        have k1 : (k : Int) < (n : Int) := by omega
        clear hc
        cases hok : rOk zs k
        · have HF := Lib.hid (allTo_no hlt hok)
          unfold rOk at hok
          generalize zs.getD (k * 4) 0 = y0 at g0 hok
          generalize zs.getD (k * 4 + 1) 0 = y1 at g1 hok
          generalize zs.getD (k * 4 + 2) 0 = y2 at g2 hok
          generalize zs.getD (k * 4 + 3) 0 = y3 at g3 hok
          have hok := Lib.hid hok
          go_wp2_with (go_at_call 61; refine (valid_any _ _ _ _ _).mono ?_; rw [hok.out]; rintro e w2 ⟨rfl, h2⟩; (have H2 := Lib.hid h2); clear h2)
          go_ret
          exact ⟨ret_bool (E.out.trans HF.out).symm, New.trans (b := wr) HN.out (New.trans (by (repeat (first | exact New.refl _ | assumption | refine New.alloc ?_ _ | refine New.drew ?_ | refine New.drewN ?_ _ | refine New.setCell ?_ (by first | omega | (simp; omega) | (simp; done)) _ | refine New.trans ?_ (by assumption)))) H2.out)⟩
        · have HS := Lib.hid (allTo_step HA.out hok)
          unfold rOk at hok
          generalize zs.getD (k * 4) 0 = y0 at g0 hok
          generalize zs.getD (k * 4 + 1) 0 = y1 at g1 hok
          generalize zs.getD (k * 4 + 2) 0 = y2 at g2 hok
          generalize zs.getD (k * 4 + 3) 0 = y3 at g3 hok
          have hok := Lib.hid hok
          go_wp2_with (go_at_call 61; refine (valid_any _ _ _ _ _).mono ?_; rw [hok.out]; rintro e w2 ⟨rfl, h2⟩; (have H2 := Lib.hid h2); clear h2)
          go_roundw
          case rel => exact ⟨k + 1, by omega, by go_num, HS, Lib.hid (New.trans (b := wr) HN.out (New.trans (by (repeat (first | exact New.refl _ | assumption | refine New.alloc ?_ _ | refine New.drew ?_ | refine New.drewN ?_ _ | refine New.setCell ?_ (by first | omega | (simp; omega) | (simp; done)) _ | refine New.trans ?_ (by assumption)))) H2.out))⟩
          case measure => simp [intOf]; omega
      · obtain rfl : k = n := by omega
        have HF := Lib.hid (allTo_iff.2 HA.out)
        go_wp2
        go_ret
        exact ⟨ret_bool (E.out.trans HF.out).symm, HN.out⟩
  · have E : rsB most n zs = false := by unfold rsB; rw [decide_eq_false hr, Bool.false_and]
    have hd := decide_eq_false hr
    rw [E]
    have hr2 : most < (n : Int) := by omega
    clear E
    go_enter Try.func43, Try.ntmps43
    go_wp2
    go_ret
    exact ⟨rfl, New.refl _⟩
/-- What the reference tells of two rows: all of the first are valid, and those of the second that stand beside them; they are as long, and not too long. -/
theorem chgOk_of {n m : Nat} {xs ys : List Int} (h1 : ∀ j, j < n → rOk xs j = true) (h2 : ∀ j, j < n → j < m → rOk ys j = true) : chgOk n m xs ys = (decide ((n : Int) = (m : Int)) && decide ((n : Int) ≤ 16)) := by
  rw [Bool.eq_iff_iff, chgOk_iff, rsB_iff, rsB_iff, Bool.and_eq_true, decide_eq_true_iff, decide_eq_true_iff]
  constructor
  · rintro ⟨a, ⟨b, _⟩, _⟩; exact ⟨by omega, b⟩
  · rintro ⟨a, b⟩
    obtain rfl : n = m := by omega
    exact ⟨rfl, ⟨b, h1⟩, b, fun j hj => h2 j hj hj⟩
theorem chgOk_no1 {n m k : Nat} {xs ys : List Int} (hk : k < n) (h : rOk xs k = false) : chgOk n m xs ys = false := by
  rw [Bool.eq_false_iff]; intro e
  have := (rsB_iff.1 (chgOk_iff.1 e).2.1).2 k hk
  rw [h] at this; cases this
theorem chgOk_no2 {n m k : Nat} {xs ys : List Int} (hk : k < m) (h : rOk ys k = false) : chgOk n m xs ys = false := by
  rw [Bool.eq_false_iff]; intro e
  have := (rsB_iff.1 (chgOk_iff.1 e).2.2).2 k hk
  rw [h] at this; cases this
set_option maxRecDepth 100000 in
set_option maxHeartbeats 4000000 in
theorem svalidRects_any (A B : Option Addr) (n c m d : Nat) (xs ys : List Int) (hn : n ≤ 1048576) (hm : m ≤ 1048576) (w : World) (hx : Sts 4 w A n xs) (hy : Sts 4 w B m ys) :
    Calls Try.prog 41 #[.slice A n c, .slice B m d] w fun e w' => e = .returned (.bool (chgOk n m xs ys)) ∧ New w w' := by
  have HX := Lib.hid hx; have HY := Lib.hid hy
  clear hx hy
  go_enter Try.func41, Try.ntmps41
  go_wp2
  go_loopw [5] (fun i wr => ∃ k : Nat, k ≤ n ∧ i = .int .i64 k ∧ Hid (∀ j, j < k → rOk xs j = true) ∧ Hid (∀ j, j < k → j < m → rOk ys j = true) ∧ Hid (New w wr)) (fun i _ => n - (intOf i).toNat)
  case atStart => exact ⟨0, Nat.zero_le _, rfl, Lib.hid (fun j h => absurd h (by omega)), Lib.hid (fun j h => absurd h (by omega)), Lib.hid (New.refl _)⟩
  case round =>
    obtain ⟨k, hk, rfl, HA, HB, HN⟩ := hrel
    by_cases hlt : k < n
    · obtain ⟨b, off, rfl, hb, hc⟩ := HX.out.at_ (by omega)
      have g0 : wr.cell? ⟨b, off + k * 4, none⟩ = some (.int .i64 (xs.getD (k * 4) 0)) := (HN.out.cells b _ hb).trans (hc (k * 4) (by have := idx_lt (m := 4) (j := 0) hlt (by omega); omega))
      have g1 : wr.cell? ⟨b, off + k * 4 + 1, none⟩ = some (.int .i64 (xs.getD (k * 4 + 1) 0)) := (HN.out.cells b _ hb).trans (hc (k * 4 + 1) (by have := idx_lt (m := 4) (j := 1) hlt (by omega); omega))
      have g2 : wr.cell? ⟨b, off + k * 4 + 2, none⟩ = some (.int .i64 (xs.getD (k * 4 + 2) 0)) := (HN.out.cells b _ hb).trans (hc (k * 4 + 2) (by have := idx_lt (m := 4) (j := 2) hlt (by omega); omega))
      have g3 : wr.cell? ⟨b, off + k * 4 + 3, none⟩ = some (.int .i64 (xs.getD (k * 4 + 3) 0)) := (HN.out.cells b _ hb).trans (hc (k * 4 + 3) (by have := idx_lt (m := 4) (j := 3) hlt (by omega); omega))
      have k0 : (0 : Int) ≤ (k : Int) := by omega
      have k1 : (k : Int) < (n : Int) := by omega
      clear hc
      cases hok : rOk xs k
      · have HF := Lib.hid (chgOk_no1 (m := m) (ys := ys) hlt hok)
        unfold rOk at hok
        generalize xs.getD (k * 4) 0 = y0 at g0 hok
        generalize xs.getD (k * 4 + 1) 0 = y1 at g1 hok
        generalize xs.getD (k * 4 + 2) 0 = y2 at g2 hok
        generalize xs.getD (k * 4 + 3) 0 = y3 at g3 hok
        have hok := Lib.hid hok
        go_wp2_with (go_at_call 45; refine (validRect_any _ _ _ _ _).mono ?_; rw [hok.out]; rintro e w2 ⟨rfl, h2⟩; (have H2 := Lib.hid h2); clear h2)
        go_ret
        exact ⟨ret_bool HF.out.symm, New.trans (b := wr) HN.out (New.trans (by (repeat (first | exact New.refl _ | assumption | refine New.alloc ?_ _ | refine New.drew ?_ | refine New.drewN ?_ _ | refine New.setCell ?_ (by first | omega | (simp; omega) | (simp; done)) _ | refine New.trans ?_ (by assumption)))) H2.out)⟩
      have HS := Lib.hid (allTo_step HA.out hok)
      unfold rOk at hok
      generalize xs.getD (k * 4) 0 = y0 at g0 hok
      generalize xs.getD (k * 4 + 1) 0 = y1 at g1 hok
      generalize xs.getD (k * 4 + 2) 0 = y2 at g2 hok
      generalize xs.getD (k * 4 + 3) 0 = y3 at g3 hok
      have hok := Lib.hid hok
      by_cases hlm : k < m
      · have m1 : (k : Int) < (m : Int) := by omega
        obtain ⟨b', off', rfl, hb', hc'⟩ := HY.out.at_ (by omega)
        have o0 : wr.cell? ⟨b', off' + k * 4, none⟩ = some (.int .i64 (ys.getD (k * 4) 0)) := (HN.out.cells b' _ hb').trans (hc' (k * 4) (by have := idx_lt (m := 4) (j := 0) hlm (by omega); omega))
        have o1 : wr.cell? ⟨b', off' + k * 4 + 1, none⟩ = some (.int .i64 (ys.getD (k * 4 + 1) 0)) := (HN.out.cells b' _ hb').trans (hc' (k * 4 + 1) (by have := idx_lt (m := 4) (j := 1) hlm (by omega); omega))
        have o2 : wr.cell? ⟨b', off' + k * 4 + 2, none⟩ = some (.int .i64 (ys.getD (k * 4 + 2) 0)) := (HN.out.cells b' _ hb').trans (hc' (k * 4 + 2) (by have := idx_lt (m := 4) (j := 2) hlm (by omega); omega))
        have o3 : wr.cell? ⟨b', off' + k * 4 + 3, none⟩ = some (.int .i64 (ys.getD (k * 4 + 3) 0)) := (HN.out.cells b' _ hb').trans (hc' (k * 4 + 3) (by have := idx_lt (m := 4) (j := 3) hlm (by omega); omega))
        clear hc'
        have hbb : b' < wr.heap.size := Nat.lt_of_lt_of_le hb' HN.out.le
        cases hok2 : rOk ys k
        · have HF := Lib.hid (chgOk_no2 (n := n) (xs := xs) hlm hok2)
          unfold rOk at hok2
          generalize ys.getD (k * 4) 0 = z0 at o0 hok2
          generalize ys.getD (k * 4 + 1) 0 = z1 at o1 hok2
          generalize ys.getD (k * 4 + 2) 0 = z2 at o2 hok2
          generalize ys.getD (k * 4 + 3) 0 = z3 at o3 hok2
          have hok2 := Lib.hid hok2
          go_wp2_with fail
          refine (validRect_any _ _ _ _ _).mono ?_
          rw [hok.out]
          rintro e w2 ⟨rfl, h2⟩
          have c2 := h2.cells
          have H2 := Lib.hid h2
          have o0 := (c2 b' _ hbb).trans o0
          have o1 := (c2 b' _ hbb).trans o1
          have o2 := (c2 b' _ hbb).trans o2
          have o3 := (c2 b' _ hbb).trans o3
          clear h2 c2
          go_wp2_with fail
          refine (validRect_any _ _ _ _ _).mono ?_
          rw [hok2.out]
          rintro e w3 ⟨rfl, h3⟩
          have H3 := Lib.hid h3
          clear h3
          go_wp2
          go_ret
          exact ⟨ret_bool HF.out.symm, New.trans (b := wr) HN.out (New.trans (by (repeat (first | exact New.refl _ | assumption | refine New.alloc ?_ _ | refine New.drew ?_ | refine New.drewN ?_ _ | refine New.setCell ?_ (by first | omega | (simp; omega) | (simp; done)) _ | refine New.trans ?_ (by assumption)))) (New.trans H2.out H3.out))⟩
        · have HS2 := Lib.hid (fun j hj hjm => (Nat.lt_or_eq_of_le (Nat.le_of_lt_succ hj)).elim (fun h => HB.out j h hjm) (fun e => by rw [e]; exact hok2) : ∀ j, j < k + 1 → j < m → rOk ys j = true)
          unfold rOk at hok2
          generalize ys.getD (k * 4) 0 = z0 at o0 hok2
          generalize ys.getD (k * 4 + 1) 0 = z1 at o1 hok2
          generalize ys.getD (k * 4 + 2) 0 = z2 at o2 hok2
          generalize ys.getD (k * 4 + 3) 0 = z3 at o3 hok2
          have hok2 := Lib.hid hok2
          go_wp2_with fail
          refine (validRect_any _ _ _ _ _).mono ?_
          rw [hok.out]
          rintro e w2 ⟨rfl, h2⟩
          have c2 := h2.cells
          have H2 := Lib.hid h2
          have o0 := (c2 b' _ hbb).trans o0
          have o1 := (c2 b' _ hbb).trans o1
          have o2 := (c2 b' _ hbb).trans o2
          have o3 := (c2 b' _ hbb).trans o3
          clear h2 c2
          go_wp2_with fail
          refine (validRect_any _ _ _ _ _).mono ?_
          rw [hok2.out]
          rintro e w3 ⟨rfl, h3⟩
          have H3 := Lib.hid h3
          clear h3
          go_wp2
          go_roundw
          case rel => exact ⟨k + 1, by omega, by go_num, HS, HS2, Lib.hid (New.trans (b := wr) HN.out (New.trans (by (repeat (first | exact New.refl _ | assumption | refine New.alloc ?_ _ | refine New.drew ?_ | refine New.drewN ?_ _ | refine New.setCell ?_ (by first | omega | (simp; omega) | (simp; done)) _ | refine New.trans ?_ (by assumption)))) (New.trans H2.out H3.out)))⟩
          case measure => simp [intOf]; omega
      · have m1 : ¬ (k : Int) < (m : Int) := by omega
        have m2 : decide ((k : Int) < (m : Int)) = false := decide_eq_false m1
        have HS2 := Lib.hid (fun j hj hjm => HB.out j (by omega) hjm : ∀ j, j < k + 1 → j < m → rOk ys j = true)
        go_wp2_with (go_at_call 45; refine (validRect_any _ _ _ _ _).mono ?_; rw [hok.out]; rintro e w2 ⟨rfl, h2⟩; (have H2 := Lib.hid h2); clear h2)
        go_roundw
        case rel => exact ⟨k + 1, by omega, by go_num, HS, HS2, Lib.hid (New.trans (b := wr) HN.out (New.trans (by (repeat (first | exact New.refl _ | assumption | refine New.alloc ?_ _ | refine New.drew ?_ | refine New.drewN ?_ _ | refine New.setCell ?_ (by first | omega | (simp; omega) | (simp; done)) _ | refine New.trans ?_ (by assumption)))) H2.out))⟩
        case measure => simp [intOf]; omega
    · obtain rfl : k = n := by omega
      have EF := Lib.hid (chgOk_of HA.out HB.out)
      go_wp2
      all_goals (go_ret; exact ⟨ret_bool (by rw [EF.out, Bool.eq_iff_iff]; simp at *; omega), HN.out⟩)
end Go.Proofs.Ytckdokijmlpngaa
