/- The checks of buffers in the program and in the reference, walked. Condition: both rows can be read. -/
import Derived.Test.YtbnelakllfbjiaaBuf
import Derived.Test.YtbnelakllfbjiaaInts2
namespace Go.Proofs.Ytbnelakllfbjiaa
open Go.RowKit

/-- Cells are valid. -/
def cellsB (xs : List Int) : Bool := decide (1 ≤ (xs.length : Int) ∧ (xs.length : Int) ≤ 16) && allB (-10000) 10000 xs
/-- Buffers are valid. -/
def okB (v : Int) (xs ys : List Int) : Bool := decide (xs.length = ys.length) && cellsB xs && cellsB ys && decide (0 ≤ v ∧ v ≤ 1000)
theorem okB_iff {v : Int} {xs ys : List Int} : okB v xs ys = true ↔ xs.length = ys.length ∧ cellsB xs = true ∧ cellsB ys = true ∧ 0 ≤ v ∧ v ≤ 1000 := by
  unfold okB; simp [and_assoc]
theorem cellsB_iff {xs : List Int} : cellsB xs = true ↔ 1 ≤ xs.length ∧ xs.length ≤ 16 ∧ ∀ z ∈ xs, -10000 ≤ z ∧ z ≤ 10000 := by
  unfold cellsB; rw [Bool.and_eq_true, allB_iff, decide_eq_true_eq]
  constructor
  · rintro ⟨⟨h1, h2⟩, h3⟩; exact ⟨by omega, by omega, h3⟩
  · rintro ⟨h1, h2, h3⟩; exact ⟨⟨by omega, by omega⟩, h3⟩
set_option maxHeartbeats 1000000 in
theorem validCells_any (A : Option Addr) (n c : Nat) (xs : List Int) (hn : n ≤ 1048576) (w : World) (hx : Ints w A n xs) :
    Calls Try.prog 51 #[.slice A n c] w fun e w' => e = .returned (.bool (cellsB xs)) ∧ w = w' := by
  have HX := Lib.hid hx
  have lx := hx.len
  have LX := Lib.hid lx
  clear hx
  by_cases hr : 1 ≤ (n : Int) ∧ (n : Int) ≤ 16
  · have E : Hid (cellsB xs = allB (-10000) 10000 xs) := Lib.hid (by
      unfold cellsB
      rw [lx, decide_eq_true hr, Bool.true_and])
    have hrb : decide (1 ≤ (n : Int) ∧ (n : Int) ≤ 16) = true := decide_eq_true hr
    clear lx hr
    go_enter Try.func51, Try.ntmps51
    go_wp2_with (go_at_call 52; refine (within_any _ _ _ _).mono ?_; rw [hrb]; rintro e w' ⟨rfl, rfl⟩)
    clear hrb
    go_loop [11] (fun i => ∃ k : Nat, k ≤ n ∧ i = .int .i64 k ∧ Hid (∀ z ∈ xs.take k, -10000 ≤ z ∧ z ≤ 10000)) (fun i => n - (intOf i).toNat)
    case atStart => exact ⟨0, Nat.zero_le _, rfl, Lib.hid (by simp)⟩
    case round =>
      obtain ⟨k, hk, rfl, HA⟩ := hrel
      by_cases hlt : k < n
      · obtain ⟨b, off, rfl, hb, hc⟩ := HX.out.at_ (by omega)
        have g := hc k hlt
        clear hc
        have k0 : (0 : Int) ≤ (k : Int) := by omega
        have k1 : (k : Int) < (n : Int) := by omega
        by_cases hz : -10000 ≤ xs.getD k 0 ∧ xs.getD k 0 ≤ 10000
        · have HS := Lib.hid (allB_step (by rw [LX.out]; exact hlt) HA.out hz)
          generalize xs.getD k 0 = z at g hz
          have hzb : decide (-10000 ≤ z ∧ z ≤ 10000) = true := decide_eq_true hz
          clear hz
          go_wp2_with (go_at_call 52; refine (within_any _ _ _ _).mono ?_; rw [hzb]; rintro e w' ⟨rfl, rfl⟩)
          go_round
          case rel => exact ⟨k + 1, by omega, by go_num, HS⟩
          case measure => simp [intOf]; omega
        · have HF := Lib.hid (allB_no (by rw [LX.out]; exact hlt) hz)
          generalize xs.getD k 0 = z at g hz
          have hzb : decide (-10000 ≤ z ∧ z ≤ 10000) = false := by rw [decide_eq_false_iff_not]; exact hz
          clear hz
          go_wp2_with (go_at_call 52; refine (within_any _ _ _ _).mono ?_; rw [hzb]; rintro e w' ⟨rfl, rfl⟩)
          go_ret
          exact ⟨ret_bool (E.out.trans HF.out).symm, rfl⟩
      · have hk' : k = n := by omega
        subst hk'
        go_wp2
        go_ret
        exact ⟨ret_bool (by
          have h := HA.out
          rw [List.take_of_length_le (by rw [LX.out]; omega)] at h
          exact (E.out.trans (allB_iff.2 h)).symm), rfl⟩
  · have E : cellsB xs = false := by
      unfold cellsB
      rw [lx, decide_eq_false hr, Bool.false_and]
    rw [E]
    have hrb : decide (1 ≤ (n : Int) ∧ (n : Int) ≤ 16) = false := decide_eq_false hr
    clear lx E hr
    go_enter Try.func51, Try.ntmps51
    go_wp2_with (go_at_call 52; refine (within_any _ _ _ _).mono ?_; rw [hrb]; rintro e w' ⟨rfl, rfl⟩)
    go_ret
    exact ⟨rfl, rfl⟩
set_option maxHeartbeats 1000000 in
theorem ValidBuffers_any (A : Option Addr) (n c : Nat) (B : Option Addr) (m d : Nat) (v : Int) (xs ys : List Int) (hn : n ≤ 1048576) (hm : m ≤ 1048576) (w : World) (hx : Ints w A n xs) (hy : Ints w B m ys) :
    Calls Try.prog 23 #[.agg #[.slice A n c, .slice B m d, .int .i64 v]] w fun e w' => e = .returned (.bool (okB v xs ys)) ∧ New w w' := by
  have N0 : New w (w.alloc (.cells #[.slice A n c, .slice B m d, .int .i64 v] 25)) := by (repeat (first | exact New.refl _ | assumption | refine New.alloc ?_ _ | refine New.drew ?_ | refine New.drewN ?_ _ | refine New.setCell ?_ (by first | omega | (simp; omega) | (simp; done)) _ | refine New.trans ?_ (by assumption)))
  have HX := Lib.hid (hx.new N0); have HY := Lib.hid (hy.new N0); have N0 := Lib.hid N0
  have lx := hx.len; have ly := hy.len
  clear hx hy
  have CX := Lib.hid (validCells_any A n c xs hn _ HX.out); have CY := Lib.hid (validCells_any B m d ys hm _ HY.out)
  by_cases hl : n = m
  · subst hl
    cases hx : cellsB xs
    · skip
      have E : Hid (okB v xs ys = false) := Lib.hid (by unfold okB; rw [hx]; simp)
      clear lx ly
      go_enter Try.func23, Try.ntmps23
      go_wp2_with fail
      refine CX.out.mono ?_
      rw [hx]
      rintro e w' ⟨rfl, rfl⟩
      go_wp2
      go_ret
      exact ⟨ret_bool E.out.symm, N0.out⟩
    · skip
      cases hy : cellsB ys
      · skip
        have E : Hid (okB v xs ys = false) := Lib.hid (by unfold okB; rw [hy]; simp)
        clear lx ly
        go_enter Try.func23, Try.ntmps23
        go_wp2_with fail
        refine CX.out.mono ?_
        rw [hx]
        rintro e w' ⟨rfl, rfl⟩
        go_wp2_with fail
        refine CY.out.mono ?_
        rw [hy]
        rintro e w' ⟨rfl, rfl⟩
        go_wp2
        go_ret
        exact ⟨ret_bool E.out.symm, N0.out⟩
      · skip
        cases hv : decide (0 ≤ v ∧ v ≤ 1000)
        · skip
          have E : Hid (okB v xs ys = false) := Lib.hid (by unfold okB; rw [hv]; simp)
          clear lx ly
          go_enter Try.func23, Try.ntmps23
          go_wp2_with fail
          refine CX.out.mono ?_
          rw [hx]
          rintro e w' ⟨rfl, rfl⟩
          go_wp2_with fail
          refine CY.out.mono ?_
          rw [hy]
          rintro e w' ⟨rfl, rfl⟩
          go_wp2_with fail
          refine (within_any _ _ _ _).mono ?_
          rw [hv]
          rintro e w' ⟨rfl, rfl⟩
          go_wp2
          go_ret
          exact ⟨ret_bool E.out.symm, N0.out⟩
        · skip
          have E : Hid (okB v xs ys = true) := Lib.hid (by unfold okB; rw [lx, ly, hx, hy, hv]; simp)
          clear lx ly
          go_enter Try.func23, Try.ntmps23
          go_wp2_with fail
          refine CX.out.mono ?_
          rw [hx]
          rintro e w' ⟨rfl, rfl⟩
          go_wp2_with fail
          refine CY.out.mono ?_
          rw [hy]
          rintro e w' ⟨rfl, rfl⟩
          go_wp2_with fail
          refine (within_any _ _ _ _).mono ?_
          rw [hv]
          rintro e w' ⟨rfl, rfl⟩
          go_wp2
          go_ret
          exact ⟨ret_bool E.out.symm, N0.out⟩
  · have hlen : ((n : Int) == (m : Int)) = false := by simp; omega
    have hlen' : ((m : Int) == (n : Int)) = false := by simp; omega
    have E : Hid (okB v xs ys = false) := Lib.hid (by unfold okB; rw [lx, ly, decide_eq_false hl]; rfl)
    clear lx ly
    go_enter Try.func23, Try.ntmps23
    go_wp2
    go_ret
    exact ⟨ret_bool E.out.symm, N0.out⟩
set_option maxHeartbeats 1000000 in
theorem SValidBuffers_any (A : Option Addr) (n c : Nat) (B : Option Addr) (m d : Nat) (v : Int) (xs ys : List Int) (hn : n ≤ 1048576) (hm : m ≤ 1048576) (w : World) (hx : Ints w A n xs) (hy : Ints w B m ys) :
    Calls Try.prog 49 #[.agg #[.slice A n c, .slice B m d, .int .i64 v]] w fun e w' => e = .returned (.bool (okB v xs ys)) ∧ New w w' := by
  have N0 : New w (w.alloc (.cells #[.slice A n c, .slice B m d, .int .i64 v] 25)) := by (repeat (first | exact New.refl _ | assumption | refine New.alloc ?_ _ | refine New.drew ?_ | refine New.drewN ?_ _ | refine New.setCell ?_ (by first | omega | (simp; omega) | (simp; done)) _ | refine New.trans ?_ (by assumption)))
  have HX := Lib.hid (hx.new N0); have HY := Lib.hid (hy.new N0); have N0 := Lib.hid N0
  have lx := hx.len; have ly := hy.len
  clear hx hy
  have CX := Lib.hid (allIn_any A n c xs (-10000) 10000 hn _ HX.out); have CY := Lib.hid (allIn_any B m d ys (-10000) 10000 hm _ HY.out)
  cases hr : decide (1 ≤ (n : Int) ∧ (n : Int) ≤ 16)
  · skip
    have E : Hid (okB v xs ys = false) := Lib.hid (by unfold okB cellsB; rw [lx, hr]; simp)
    clear lx ly
    go_enter Try.func49, Try.ntmps49
    go_wp2_with fail
    refine (inRange_any _ _ _ _).mono ?_
    rw [hr]
    rintro e w' ⟨rfl, rfl⟩
    go_wp2
    go_ret
    exact ⟨ret_bool E.out.symm, N0.out⟩
  · skip
    by_cases hl : n = m
    · subst hl
      cases hx : allB (-10000) 10000 xs
      · skip
        have E : Hid (okB v xs ys = false) := Lib.hid (by unfold okB cellsB; rw [hx]; simp)
        clear lx ly
        go_enter Try.func49, Try.ntmps49
        go_wp2_with fail
        refine (inRange_any _ _ _ _).mono ?_
        rw [hr]
        rintro e w' ⟨rfl, rfl⟩
        go_wp2_with fail
        refine CX.out.mono ?_
        rw [hx]
        rintro e w' ⟨rfl, rfl⟩
        go_wp2
        go_ret
        exact ⟨ret_bool E.out.symm, N0.out⟩
      · skip
        cases hy : allB (-10000) 10000 ys
        · skip
          have E : Hid (okB v xs ys = false) := Lib.hid (by unfold okB cellsB; rw [hy]; simp)
          clear lx ly
          go_enter Try.func49, Try.ntmps49
          go_wp2_with fail
          refine (inRange_any _ _ _ _).mono ?_
          rw [hr]
          rintro e w' ⟨rfl, rfl⟩
          go_wp2_with fail
          refine CX.out.mono ?_
          rw [hx]
          rintro e w' ⟨rfl, rfl⟩
          go_wp2_with fail
          refine CY.out.mono ?_
          rw [hy]
          rintro e w' ⟨rfl, rfl⟩
          go_wp2
          go_ret
          exact ⟨ret_bool E.out.symm, N0.out⟩
        · skip
          cases hv : decide (0 ≤ v ∧ v ≤ 1000)
          · skip
            have E : Hid (okB v xs ys = false) := Lib.hid (by unfold okB cellsB; rw [hv]; simp)
            clear lx ly
            go_enter Try.func49, Try.ntmps49
            go_wp2_with fail
            refine (inRange_any _ _ _ _).mono ?_
            rw [hr]
            rintro e w' ⟨rfl, rfl⟩
            go_wp2_with fail
            refine CX.out.mono ?_
            rw [hx]
            rintro e w' ⟨rfl, rfl⟩
            go_wp2_with fail
            refine CY.out.mono ?_
            rw [hy]
            rintro e w' ⟨rfl, rfl⟩
            go_wp2_with fail
            refine (inRange_any _ _ _ _).mono ?_
            rw [hv]
            rintro e w' ⟨rfl, rfl⟩
            go_wp2
            go_ret
            exact ⟨ret_bool E.out.symm, N0.out⟩
          · skip
            have E : Hid (okB v xs ys = true) := Lib.hid (by unfold okB cellsB; rw [lx, ly, hr, hx, hy, hv]; simp)
            clear lx ly
            go_enter Try.func49, Try.ntmps49
            go_wp2_with fail
            refine (inRange_any _ _ _ _).mono ?_
            rw [hr]
            rintro e w' ⟨rfl, rfl⟩
            go_wp2_with fail
            refine CX.out.mono ?_
            rw [hx]
            rintro e w' ⟨rfl, rfl⟩
            go_wp2_with fail
            refine CY.out.mono ?_
            rw [hy]
            rintro e w' ⟨rfl, rfl⟩
            go_wp2_with fail
            refine (inRange_any _ _ _ _).mono ?_
            rw [hv]
            rintro e w' ⟨rfl, rfl⟩
            go_wp2
            go_ret
            exact ⟨ret_bool E.out.symm, N0.out⟩
    · have hlen : ((n : Int) == (m : Int)) = false := by simp; omega
      have hlen' : ((m : Int) == (n : Int)) = false := by simp; omega
      have E : Hid (okB v xs ys = false) := Lib.hid (by unfold okB cellsB; rw [lx, ly, decide_eq_false hl]; rfl)
      clear lx ly
      go_enter Try.func49, Try.ntmps49
      go_wp2_with fail
      refine (inRange_any _ _ _ _).mono ?_
      rw [hr]
      rintro e w' ⟨rfl, rfl⟩
      go_wp2
      go_ret
      exact ⟨ret_bool E.out.symm, N0.out⟩
end Go.Proofs.Ytbnelakllfbjiaa
