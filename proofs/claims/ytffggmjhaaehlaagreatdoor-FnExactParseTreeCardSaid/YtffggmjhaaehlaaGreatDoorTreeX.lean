/- Boxes, checked: Box.valid of the program, validBox of the reference; hasRoom and take of a node, walked. Conditions: the nodes are linked. -/
import Derived.Test.YtffggmjhaaehlaaGreatDoorTreeW
namespace Go.Proofs.YtffggmjhaaehlaaGreatDoor
open Go.RowKit

/-- A box is right by itself: kind, width, height, pad, gap, grow, shrink, justify. -/
def okX (k wd ht pd gp gr sh ju : Int) : Bool := decide ((0 ≤ k ∧ k ≤ 3) ∧ (0 ≤ wd ∧ wd ≤ if k = 0 then 100 else 0) ∧ (0 ≤ ht ∧ ht ≤ if k = 0 then 100 else 0) ∧ (0 ≤ pd ∧ pd ≤ 50) ∧ (0 ≤ gp ∧ gp ≤ 50) ∧ (0 ≤ gr ∧ gr ≤ 10) ∧ (0 ≤ sh ∧ sh ≤ 10) ∧ (0 ≤ ju ∧ ju ≤ 3))
def boxB (zs : List Int) (i : Nat) : Bool := okX (zs.getD (i * 9 + 1) 0) (zs.getD (i * 9 + 2) 0) (zs.getD (i * 9 + 3) 0) (zs.getD (i * 9 + 4) 0) (zs.getD (i * 9 + 5) 0) (zs.getD (i * 9 + 6) 0) (zs.getD (i * 9 + 7) 0) (zs.getD (i * 9 + 8) 0)
theorem boxB_iff {zs : List Int} {i : Nat} : boxB zs i = true ↔ BoxP zs i := by
  unfold boxB okX BoxP knd
  rw [decide_eq_true_eq]
set_option maxHeartbeats 2000000 in
theorem boxValid_any (p k wd ht pd gp gr sh ju : Int) (w : World) :
    Calls Tryz.prog 46 #[.agg #[.int .i64 p, .int .i64 k, .int .i64 wd, .int .i64 ht, .int .i64 pd, .int .i64 gp, .int .i64 gr, .int .i64 sh, .int .i64 ju]] w fun e w' => e = .returned (.bool (okX k wd ht pd gp gr sh ju)) ∧ New w w' := by
  by_cases hk : k = 0
  · subst hk
    go_enter Tryz.func46, Tryz.ntmps46
    go_wp2_with (go_at_call 45; refine (within_any _ _ _ _).mono ?_; rintro e w' ⟨rfl, rfl⟩)
    all_goals (go_ret; exact ⟨ret_bool (by unfold okX; rw [Bool.eq_iff_iff]; simp at *; omega), by (repeat (first | exact New.refl _ | assumption | refine New.alloc ?_ _ | refine New.drew ?_ | refine New.drewN ?_ _ | refine New.setCell ?_ (by first | omega | (simp; omega) | (simp; done)) _ | refine New.trans ?_ (by assumption)))⟩)
  · have hb : (k == 0) = false := by simpa using hk
    go_enter Tryz.func46, Tryz.ntmps46
    go_wp2_with (go_at_call 45; refine (within_any _ _ _ _).mono ?_; rintro e w' ⟨rfl, rfl⟩)
    all_goals (go_ret; exact ⟨ret_bool (by unfold okX; rw [if_neg hk, Bool.eq_iff_iff]; simp at *; omega), by (repeat (first | exact New.refl _ | assumption | refine New.alloc ?_ _ | refine New.drew ?_ | refine New.drewN ?_ _ | refine New.setCell ?_ (by first | omega | (simp; omega) | (simp; done)) _ | refine New.trans ?_ (by assumption)))⟩)
set_option maxHeartbeats 2000000 in
theorem svalidBox_any (p k wd ht pd gp gr sh ju : Int) (w : World) :
    Calls Tryz.prog 36 #[.agg #[.int .i64 p, .int .i64 k, .int .i64 wd, .int .i64 ht, .int .i64 pd, .int .i64 gp, .int .i64 gr, .int .i64 sh, .int .i64 ju]] w fun e w' => e = .returned (.bool (okX k wd ht pd gp gr sh ju)) ∧ New w w' := by
  by_cases hk : k = 0
  · subst hk
    go_enter Tryz.func36, Tryz.ntmps36
    go_wp2_with (go_at_call 37; refine (inRange_any _ _ _ _).mono ?_; rintro e w' ⟨rfl, rfl⟩)
    all_goals (go_ret; exact ⟨ret_bool (by unfold okX; rw [Bool.eq_iff_iff]; simp at *; omega), by (repeat (first | exact New.refl _ | assumption | refine New.alloc ?_ _ | refine New.drew ?_ | refine New.drewN ?_ _ | refine New.setCell ?_ (by first | omega | (simp; omega) | (simp; done)) _ | refine New.trans ?_ (by assumption)))⟩)
  · have hb : (k == 0) = false := by simpa using hk
    go_enter Tryz.func36, Tryz.ntmps36
    go_wp2_with (go_at_call 37; refine (inRange_any _ _ _ _).mono ?_; rintro e w' ⟨rfl, rfl⟩)
    all_goals (go_ret; exact ⟨ret_bool (by unfold okX; rw [if_neg hk, Bool.eq_iff_iff]; simp at *; omega), by (repeat (first | exact New.refl _ | assumption | refine New.alloc ?_ _ | refine New.drew ?_ | refine New.drewN ?_ _ | refine New.setCell ?_ (by first | omega | (simp; omega) | (simp; done)) _ | refine New.trans ?_ (by assumption)))⟩)
/-- One box more may be directly in a box. -/
def roomB (zs : List Int) (k i : Nat) : Bool := decide (knd zs i ≠ 0 ∧ (kidL zs k i).length < 8 ∧ dep zs i < 5)
set_option maxHeartbeats 1000000 in
theorem hasRoom_any (lo : Nat) (nb : Nat → Nat) (zs : List Int) (k i : Nat) (ar fi la ne : Nat → Option Nat) (hi : i < k) (w : World) (h : Lnk lo w nb zs k ar fi la ne) :
    Calls Tryz.prog 48 #[.pointer (some ⟨nb i, 0, none⟩)] w fun e w' => e = .returned (.bool (roomB zs k i)) ∧ New w w' := by
  have HL := Lib.hid h
  have g1 := h.nd.box i hi 1 (by omega)
  clear h
  by_cases h1 : knd zs i = 0
  · have e : roomB zs k i = false := decide_eq_false (fun hh => hh.1 h1)
    rw [e]
    unfold knd at h1
    rw [h1] at g1
    go_enter Tryz.func48, Tryz.ntmps48
    go_wp2
    go_ret
    exact ⟨rfl, New.refl _⟩
  · have H1 := Lib.hid h1
    have hb : (zs.getD (i * 9 + 1) 0 != 0) = true := by simpa [knd] using h1
    generalize zs.getD (i * 9 + 1) 0 = y at g1 hb
    clear h1
    go_enter Tryz.func48, Tryz.ntmps48
    go_wp2_with fail
    refine (kids_any lo nb zs k i ar fi la ne hi _ HL.out).mono ?_
    rintro e w1 ⟨v, rfl, O1, N1⟩
    obtain ⟨A1, c1, rfl, _, _⟩ := O1.res
    rw [List.length_map]
    have HL1 := Lib.hid (HL.out.new N1)
    have N1h := Lib.hid N1
    have KB := Lib.hid (show (kidL zs k i).length ≤ k from by unfold kidL; have := List.length_filter_le (fun j => decide (par zs j = (i : Int))) (List.range k); simpa using this)
    clear O1 N1
    by_cases h2 : (kidL zs k i).length < 8
    · have hl : ((kidL zs k i).length : Int) < 8 := by omega
      have H2 := Lib.hid h2
      generalize hq : (kidL zs k i).length = q at hl ⊢
      clear h2 hq
      go_wp2_with fail
      refine (depth_any lo nb zs k i ar fi la ne hi _ HL1.out).mono ?_
      rintro e w' ⟨rfl, rfl⟩
      by_cases h3 : dep zs i < 5
      · have e : roomB zs k i = true := decide_eq_true ⟨H1.out, H2.out, h3⟩
        have E := Lib.hid e; clear e
        have h3' : ((dep zs i : Nat) : Int) < 5 := by omega
        generalize dep zs i = dd at *
        go_wp2
        go_ret
        exact ⟨by rw [E.out]; rfl, N1h.out⟩
      · have e : roomB zs k i = false := decide_eq_false (fun hh => h3 hh.2.2)
        have E := Lib.hid e; clear e
        have h3' : decide (((dep zs i : Nat) : Int) < 5) = false := decide_eq_false (by omega)
        generalize dep zs i = dd at *
        clear h3
        go_wp2
        go_ret
        exact ⟨by rw [E.out]; rfl, N1h.out⟩
    · have hl : decide (((kidL zs k i).length : Int) < 8) = false := decide_eq_false (by omega)
      have e : roomB zs k i = false := decide_eq_false (fun hh => h2 hh.2.1)
      have E := Lib.hid e; clear e
      generalize (kidL zs k i).length = q at hl ⊢
      clear h2 KB
      go_wp2
      go_ret
      exact ⟨by rw [E.out]; rfl, N1h.out⟩
end Go.Proofs.YtffggmjhaaehlaaGreatDoor
