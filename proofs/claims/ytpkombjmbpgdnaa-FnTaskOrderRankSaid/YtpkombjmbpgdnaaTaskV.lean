/- The checks of a queue in the program and in the reference, walked. Condition: the tasks can be read. -/
import Derived.Test.YtpkombjmbpgdnaaSts
import Derived.Test.YtpkombjmbpgdnaaInts2
namespace Go.Proofs.Ytpkombjmbpgdnaa
open Go.RowKit

def tid (zs : List Int) (k : Nat) : Int := zs.getD (k * 3) 0
def trk (zs : List Int) (k : Nat) : Int := zs.getD (k * 3 + 1) 0
def tag (zs : List Int) (k : Nat) : Int := zs.getD (k * 3 + 2) 0
/-- The least number that a task may have. -/
def low (zs : List Int) (k : Nat) : Int := if k = 0 then 0 else tid zs (k - 1) + 1
def tskB (l i r a : Int) : Bool := decide (l ≤ i ∧ i ≤ 99) && decide (0 ≤ r ∧ r ≤ 50) && decide (0 ≤ a ∧ a ≤ 20)
def okT (zs : List Int) (k : Nat) : Bool := tskB (low zs k) (tid zs k) (trk zs k) (tag zs k)
def okS (zs : List Int) (k : Nat) : Bool := tskB 0 (tid zs k) (trk zs k) (tag zs k) && !(decide (0 < k) && decide (tid zs k ≤ tid zs (k - 1)))
def upB (n : Nat) (p : Nat → Bool) : Bool := decide (∀ k, k < n → p k = true)
/-- A queue is valid. -/
def vtk (n : Nat) (zs : List Int) : Bool := decide ((n : Int) ≤ 10) && upB n (okT zs)
theorem upB_iff {n : Nat} {p : Nat → Bool} : upB n p = true ↔ ∀ k, k < n → p k = true := by unfold upB; simp
theorem upB_no {n k : Nat} {p : Nat → Bool} (hk : k < n) (h : p k = false) : upB n p = false := by
  rw [Bool.eq_false_iff]; intro h2; rw [upB_iff.1 h2 k hk] at h; cases h
theorem upB_step {k : Nat} {p : Nat → Bool} (h : ∀ j, j < k → p j = true) (h2 : p k = true) : ∀ j, j < k + 1 → p j = true := fun j hj => by
  by_cases e : j = k
  · subst e; exact h2
  · exact h j (by omega)
theorem low_zero (zs : List Int) : low zs 0 = 0 := rfl
theorem low_succ (zs : List Int) (k : Nat) : low zs (k + 1) = tid zs k + 1 := by unfold low; rw [if_neg (by omega)]; rfl
theorem tskB_iff {l i r a : Int} : tskB l i r a = true ↔ l ≤ i ∧ i ≤ 99 ∧ 0 ≤ r ∧ r ≤ 50 ∧ 0 ≤ a ∧ a ≤ 20 := by
  unfold tskB; simp [and_assoc]
theorem okT_iff {zs : List Int} {k : Nat} : okT zs k = true ↔ low zs k ≤ tid zs k ∧ tid zs k ≤ 99 ∧ 0 ≤ trk zs k ∧ trk zs k ≤ 50 ∧ 0 ≤ tag zs k ∧ tag zs k ≤ 20 := tskB_iff
theorem okT_low {n : Nat} {zs : List Int} (h : ∀ k, k < n → okT zs k = true) : ∀ k, k < n → 0 ≤ tid zs k := fun k => by
  induction k with
  | zero => intro hk; have h1 := (okT_iff.1 (h 0 hk)).1; rw [low_zero] at h1; exact h1
  | succ k ih => intro hk; have h1 := (okT_iff.1 (h (k + 1) hk)).1; rw [low_succ] at h1; have := ih (by omega); omega
theorem okS_iff {zs : List Int} {k : Nat} : okS zs k = true ↔ tskB 0 (tid zs k) (trk zs k) (tag zs k) = true ∧ (k = 0 ∨ tid zs (k - 1) < tid zs k) := by
  unfold okS
  rw [Bool.and_eq_true]
  constructor
  · rintro ⟨h1, h2⟩
    exact ⟨h1, by simpa using h2⟩
  · rintro ⟨h1, h2⟩
    exact ⟨h1, by simpa using h2⟩
theorem upS_eq (n : Nat) (zs : List Int) : upB n (okS zs) = upB n (okT zs) := by
  rw [Bool.eq_iff_iff, upB_iff, upB_iff]
  constructor
  · intro h k hk
    obtain ⟨h1, h2⟩ := okS_iff.1 (h k hk)
    obtain ⟨a1, a2, a3, a4, a5, a6⟩ := tskB_iff.1 h1
    refine okT_iff.2 ⟨?_, a2, a3, a4, a5, a6⟩
    unfold low
    split
    · exact a1
    · rcases h2 with h2 | h2
      · omega
      · omega
  · intro h k hk
    obtain ⟨a1, a2, a3, a4, a5, a6⟩ := okT_iff.1 (h k hk)
    refine okS_iff.2 ⟨tskB_iff.2 ⟨okT_low h k hk, a2, a3, a4, a5, a6⟩, ?_⟩
    unfold low at a1
    split at a1
    · exact .inl (by assumption)
    · exact .inr (by omega)
set_option maxHeartbeats 1000000 in
theorem Task_valid_any (i r a l : Int) (w : World) :
    Calls Try.prog 36 #[.agg #[.int .i64 i, .int .i64 r, .int .i64 a], .int .i64 l] w fun e w' => e = .returned (.bool (tskB l i r a)) ∧ New w w' := by
  unfold tskB
  cases h1 : decide (l ≤ i ∧ i ≤ 99)
  · go_enter Try.func36, Try.ntmps36
    go_wp2_with fail
    refine (within_any _ _ _ _).mono ?_
    rw [h1]
    rintro e w' ⟨rfl, rfl⟩
    go_wp2
    go_ret
    exact ⟨rfl, by (repeat (first | exact New.refl _ | assumption | refine New.alloc ?_ _ | refine New.drew ?_ | refine New.drewN ?_ _ | refine New.setCell ?_ (by first | omega | (simp; omega) | (simp; done)) _ | refine New.trans ?_ (by assumption)))⟩
  · cases h2 : decide (0 ≤ r ∧ r ≤ 50)
    · go_enter Try.func36, Try.ntmps36
      go_wp2_with fail
      refine (within_any _ _ _ _).mono ?_
      rw [h1]
      rintro e w' ⟨rfl, rfl⟩
      go_wp2_with fail
      refine (within_any _ _ _ _).mono ?_
      rw [h2]
      rintro e w' ⟨rfl, rfl⟩
      go_wp2
      go_ret
      exact ⟨rfl, by (repeat (first | exact New.refl _ | assumption | refine New.alloc ?_ _ | refine New.drew ?_ | refine New.drewN ?_ _ | refine New.setCell ?_ (by first | omega | (simp; omega) | (simp; done)) _ | refine New.trans ?_ (by assumption)))⟩
    · cases h3 : decide (0 ≤ a ∧ a ≤ 20)
      all_goals
        go_enter Try.func36, Try.ntmps36
        go_wp2_with fail
        refine (within_any _ _ _ _).mono ?_
        rw [h1]
        rintro e w' ⟨rfl, rfl⟩
        go_wp2_with fail
        refine (within_any _ _ _ _).mono ?_
        rw [h2]
        rintro e w' ⟨rfl, rfl⟩
        go_wp2_with fail
        refine (within_any _ _ _ _).mono ?_
        rw [h3]
        rintro e w' ⟨rfl, rfl⟩
        go_wp2
        go_ret
        exact ⟨rfl, by (repeat (first | exact New.refl _ | assumption | refine New.alloc ?_ _ | refine New.drew ?_ | refine New.drewN ?_ _ | refine New.setCell ?_ (by first | omega | (simp; omega) | (simp; done)) _ | refine New.trans ?_ (by assumption)))⟩
set_option maxHeartbeats 2000000 in
theorem ValidTasks_any (A : Option Addr) (n c : Nat) (zs : List Int) (hn : n ≤ 1048576) (w : World) (hx : Sts 3 w A n zs) :
    Calls Try.prog 26 #[.slice A n c] w fun e w' => e = .returned (.bool (vtk n zs)) ∧ New w w' := by
  have HX := Lib.hid hx
  clear hx
  by_cases hr : (n : Int) ≤ 10
  · have E : Hid (vtk n zs = upB n (okT zs)) := Lib.hid (by unfold vtk; rw [decide_eq_true hr, Bool.true_and])
    go_enter Try.func26, Try.ntmps26
    go_wp2
    go_loopw [3, 11] (fun l i wr => ∃ k : Nat, k ≤ n ∧ i = .int .i64 (k : Int) ∧ l = .int .i64 (low zs k) ∧ Hid (∀ j, j < k → okT zs j = true) ∧ Hid (New w wr)) (fun _ i _ => n - (intOf i).toNat)
    case atStart => exact ⟨0, Nat.zero_le _, rfl, rfl, Lib.hid (fun j h => absurd h (by omega)), Lib.hid (New.refl _)⟩
    case round =>
      obtain ⟨k, hk, rfl, rfl, HA, HN⟩ := hrel
      have k0 : (0 : Int) ≤ (k : Int) := by omega
      by_cases hlt : k < n
      · obtain ⟨b, off, rfl, hb, hc⟩ := (HX.out.new HN.out).at_ (by omega)
        have g0 : wr.cell? ⟨b, off + k * 3, none⟩ = some (.int .i64 (tid zs k)) := hc (k * 3) (by omega)
        have g1 : wr.cell? ⟨b, off + k * 3 + 1, none⟩ = some (.int .i64 (trk zs k)) := hc (k * 3 + 1) (by omega)
        have g2 : wr.cell? ⟨b, off + k * 3 + 2, none⟩ = some (.int .i64 (tag zs k)) := hc (k * 3 + 2) (by omega)
        have k1 : (k : Int) < (n : Int) := by omega
        have LS := Lib.hid (low_succ zs k)
        clear hc hb
        cases hok : okT zs k
        · have HF := Lib.hid (upB_no hlt hok)
          have OK : Hid (tskB (low zs k) (tid zs k) (trk zs k) (tag zs k) = false) := Lib.hid hok
          clear hok
          generalize tid zs k = i at g0 OK LS
          generalize trk zs k = r at g1 OK
          generalize tag zs k = a at g2 OK
          generalize low zs k = l at OK
          go_wp2_with fail
          refine (Task_valid_any i r a l _).mono ?_
          rw [OK.out]
          rintro e w2 ⟨rfl, N2⟩
          have N2 := Lib.hid (HN.out.trans ((show New wr _ by (repeat (first | exact New.refl _ | assumption | refine New.alloc ?_ _ | refine New.drew ?_ | refine New.drewN ?_ _ | refine New.setCell ?_ (by first | omega | (simp; omega) | (simp; done)) _ | refine New.trans ?_ (by assumption)))).trans N2))
          go_wp2
          go_ret
          exact ⟨ret_bool (E.out.trans HF.out).symm, N2.out⟩
        · have HS := Lib.hid (upB_step HA.out hok)
          have OK : Hid (tskB (low zs k) (tid zs k) (trk zs k) (tag zs k) = true) := Lib.hid hok
          have ib := okT_iff.1 hok
          have ib0 : tid zs k ≤ 99 := ib.2.1
          have ib1 : -10 ≤ low zs k ∧ low zs k ≤ tid zs k := ⟨by have := okT_low (n := k + 1) (zs := zs) HS.out; cases k with | zero => rw [low_zero]; omega | succ k => rw [low_succ]; have := this k (by omega); omega, ib.1⟩
          clear hok ib
          generalize tid zs k = i at g0 OK LS ib0 ib1
          generalize trk zs k = r at g1 OK
          generalize tag zs k = a at g2 OK
          generalize low zs k = l at OK ib1
          go_wp2_with fail
          refine (Task_valid_any i r a l _).mono ?_
          rw [OK.out]
          rintro e w2 ⟨rfl, N2⟩
          have t0 : w2.cell? ⟨wr.heap.size, 0, none⟩ = some (.int .i64 i) := (N2.cells _ _ (by simp)).trans (by simp [go_sem])
          have N2 := Lib.hid (HN.out.trans ((show New wr _ by (repeat (first | exact New.refl _ | assumption | refine New.alloc ?_ _ | refine New.drew ?_ | refine New.drewN ?_ _ | refine New.setCell ?_ (by first | omega | (simp; omega) | (simp; done)) _ | refine New.trans ?_ (by assumption)))).trans N2))
          go_wp2
          go_roundw
          case rel => exact ⟨k + 1, by omega, by go_num, by rw [LS.out], HS, N2⟩
          case measure => simp [intOf]; omega
      · obtain rfl : n = k := by omega
        have HF : Hid (vtk n zs = true) := Lib.hid (E.out.trans (upB_iff.2 HA.out))
        go_wp2
        go_ret
        exact ⟨ret_bool HF.out.symm, HN.out⟩
  · have E : vtk n zs = false := by unfold vtk; rw [decide_eq_false hr, Bool.false_and]
    rw [E]
    have h1 : (10 : Int) < (n : Int) := by omega
    clear E hr
    go_enter Try.func26, Try.ntmps26
    go_wp2
    go_ret
    exact ⟨rfl, New.refl _⟩
set_option maxRecDepth 100000 in
set_option maxHeartbeats 4000000 in
theorem SvalidTasks_any (A : Option Addr) (n c : Nat) (zs : List Int) (hn : n ≤ 1048576) (w : World) (hx : Sts 3 w A n zs) :
    Calls Try.prog 18 #[.slice A n c] w fun e w' => e = .returned (.bool (vtk n zs)) ∧ New w w' := by
  have HX := Lib.hid hx
  clear hx
  have E : Hid (vtk n zs = (decide ((n : Int) ≤ 10) && upB n (okS zs))) := Lib.hid (by unfold vtk; rw [upS_eq])
  go_enter Try.func18, Try.ntmps18
  go_wp2
  go_loopw [3] (fun i wr => ∃ k : Nat, k ≤ n ∧ i = .int .i64 (k : Int) ∧ Hid (∀ j, j < k → okS zs j = true) ∧ Hid (New w wr)) (fun i _ => n - (intOf i).toNat)
  case atStart => exact ⟨0, Nat.zero_le _, rfl, Lib.hid (fun j h => absurd h (by omega)), Lib.hid (New.refl _)⟩
  case round =>
    obtain ⟨k, hk, rfl, HA, HN⟩ := hrel
    have k0 : (0 : Int) ≤ (k : Int) := by omega
    by_cases hlt : k < n
    · obtain ⟨b, off, rfl, hb, hc⟩ := (HX.out.new HN.out).at_ (by omega)
      have g0 : wr.cell? ⟨b, off + k * 3, none⟩ = some (.int .i64 (tid zs k)) := hc (k * 3) (by omega)
      have g1 : wr.cell? ⟨b, off + k * 3 + 1, none⟩ = some (.int .i64 (trk zs k)) := hc (k * 3 + 1) (by omega)
      have g2 : wr.cell? ⟨b, off + k * 3 + 2, none⟩ = some (.int .i64 (tag zs k)) := hc (k * 3 + 2) (by omega)
      have k1 : (k : Int) < (n : Int) := by omega
      have OK : Hid (okS zs k = (tskB 0 (tid zs k) (trk zs k) (tag zs k) && !(decide (0 < k) && decide (tid zs k ≤ tid zs (k - 1))))) := Lib.hid rfl
      have FAIL : Hid (okS zs k = false → vtk n zs = false) := Lib.hid (fun h => by rw [E.out, upB_no hlt h, Bool.and_false])
      have STEP : Hid (okS zs k = true → ∀ j, j < k + 1 → okS zs j = true) := Lib.hid (fun h => upB_step HA.out h)
      have hcc := Lib.hid hc
      clear hc hb
      unfold tskB at OK
      cases h1 : decide (0 ≤ tid zs k ∧ tid zs k ≤ 99)
      · have V := Lib.hid (FAIL.out (by rw [OK.out, h1]; rfl))
        generalize tid zs k = i at g0 h1
        have C1 := Lib.hid (fun (W : World) => (show Calls Try.prog 30 #[.int .i64 i, .int .i64 0, .int .i64 99] W fun e w' => e = .returned (.bool false) ∧ W = w' by have h := inRange_any i 0 99 W; rw [h1] at h; exact h))
        clear h1 g1 g2
        go_wp2
        go_quiet ((first | (go_at_call 30; with_reducible exact Calls.quiet_of_same ((C1.out _).mono fun _ _ h => ⟨h.1, h.2.symm⟩))))
        go_wp2
        go_ret
        exact ⟨ret_bool V.out.symm, HN.out.drewN nq⟩
      cases h2 : decide (0 ≤ trk zs k ∧ trk zs k ≤ 50)
      · have V := Lib.hid (FAIL.out (by rw [OK.out, h1, h2]; rfl))
        generalize tid zs k = i at g0 h1
        generalize trk zs k = r at g1 h2
        have C1 := Lib.hid (fun (W : World) => (show Calls Try.prog 30 #[.int .i64 i, .int .i64 0, .int .i64 99] W fun e w' => e = .returned (.bool true) ∧ W = w' by have h := inRange_any i 0 99 W; rw [h1] at h; exact h))
        have C2 := Lib.hid (fun (W : World) => (show Calls Try.prog 30 #[.int .i64 r, .int .i64 0, .int .i64 50] W fun e w' => e = .returned (.bool false) ∧ W = w' by have h := inRange_any r 0 50 W; rw [h2] at h; exact h))
        clear h1 h2 g2
        go_wp2
        go_quiet ((first | (go_at_call 30; with_reducible exact Calls.quiet_of_same ((C1.out _).mono fun _ _ h => ⟨h.1, h.2.symm⟩)) | (go_at_call 30; with_reducible exact Calls.quiet_of_same ((C2.out _).mono fun _ _ h => ⟨h.1, h.2.symm⟩))))
        go_wp2
        go_ret
        exact ⟨ret_bool V.out.symm, HN.out.drewN nq⟩
      cases h3 : decide (0 ≤ tag zs k ∧ tag zs k ≤ 20)
      · have V := Lib.hid (FAIL.out (by rw [OK.out, h1, h2, h3]; rfl))
        generalize tid zs k = i at g0 h1
        generalize trk zs k = r at g1 h2
        generalize tag zs k = a at g2 h3
        have C1 := Lib.hid (fun (W : World) => (show Calls Try.prog 30 #[.int .i64 i, .int .i64 0, .int .i64 99] W fun e w' => e = .returned (.bool true) ∧ W = w' by have h := inRange_any i 0 99 W; rw [h1] at h; exact h))
        have C2 := Lib.hid (fun (W : World) => (show Calls Try.prog 30 #[.int .i64 r, .int .i64 0, .int .i64 50] W fun e w' => e = .returned (.bool true) ∧ W = w' by have h := inRange_any r 0 50 W; rw [h2] at h; exact h))
        have C3 := Lib.hid (fun (W : World) => (show Calls Try.prog 30 #[.int .i64 a, .int .i64 0, .int .i64 20] W fun e w' => e = .returned (.bool false) ∧ W = w' by have h := inRange_any a 0 20 W; rw [h3] at h; exact h))
        clear h1 h2 h3
        go_wp2
        go_quiet ((first | (go_at_call 30; with_reducible exact Calls.quiet_of_same ((C1.out _).mono fun _ _ h => ⟨h.1, h.2.symm⟩)) | (go_at_call 30; with_reducible exact Calls.quiet_of_same ((C2.out _).mono fun _ _ h => ⟨h.1, h.2.symm⟩)) | (go_at_call 30; with_reducible exact Calls.quiet_of_same ((C3.out _).mono fun _ _ h => ⟨h.1, h.2.symm⟩))))
        go_wp2
        go_ret
        exact ⟨ret_bool V.out.symm, HN.out.drewN nq⟩
      replace OK : Hid (okS zs k = !(decide (0 < k) && decide (tid zs k ≤ tid zs (k - 1)))) := Lib.hid (by rw [OK.out, h1, h2, h3]; rfl)
      by_cases hz : k = 0
      · subst hz
        have V := Lib.hid (STEP.out (by rw [OK.out]; rfl))
        generalize tid zs 0 = i at g0 h1
        generalize trk zs 0 = r at g1 h2
        generalize tag zs 0 = a at g2 h3
        have C1 := Lib.hid (fun (W : World) => (show Calls Try.prog 30 #[.int .i64 i, .int .i64 0, .int .i64 99] W fun e w' => e = .returned (.bool true) ∧ W = w' by have h := inRange_any i 0 99 W; rw [h1] at h; exact h))
        have C2 := Lib.hid (fun (W : World) => (show Calls Try.prog 30 #[.int .i64 r, .int .i64 0, .int .i64 50] W fun e w' => e = .returned (.bool true) ∧ W = w' by have h := inRange_any r 0 50 W; rw [h2] at h; exact h))
        have C3 := Lib.hid (fun (W : World) => (show Calls Try.prog 30 #[.int .i64 a, .int .i64 0, .int .i64 20] W fun e w' => e = .returned (.bool true) ∧ W = w' by have h := inRange_any a 0 20 W; rw [h3] at h; exact h))
        clear h1 h2 h3
        simp only [Nat.zero_mul, Nat.add_zero] at g0 g1 g2
        go_wp2
        go_quiet ((first | (go_at_call 30; with_reducible exact Calls.quiet_of_same ((C1.out _).mono fun _ _ h => ⟨h.1, h.2.symm⟩)) | (go_at_call 30; with_reducible exact Calls.quiet_of_same ((C2.out _).mono fun _ _ h => ⟨h.1, h.2.symm⟩)) | (go_at_call 30; with_reducible exact Calls.quiet_of_same ((C3.out _).mono fun _ _ h => ⟨h.1, h.2.symm⟩))))
        go_wp2
        go_roundw
        case rel => exact ⟨1, by omega, by go_num, V, Lib.hid (HN.out.drewN nq)⟩
        case measure => simp [intOf]; omega
      obtain ⟨m, rfl⟩ : ∃ m, k = m + 1 := ⟨k - 1, by omega⟩
      have g3 : wr.cell? ⟨b, off + m * 3, none⟩ = some (.int .i64 (tid zs m)) := hcc.out (m * 3) (by omega)
      have s1 : IntKind.i64.wrap ((m : Int) + 1 - 1) = (m : Int) := by rw [show (m : Int) + 1 - 1 = (m : Int) by omega]; exact IntWalk.i64_in _ (by omega)
      have m0 : (0 : Int) ≤ (m : Int) := by omega
      have m1 : (m : Int) < (n : Int) := by omega
      have hp : decide ((0 : Int) < (m : Int) + 1) = true := by first | (simp; done) | (simp; omega)
      have tn : ((m : Int) + 1).toNat = m + 1 := by omega
      replace OK : Hid (okS zs (m + 1) = !(decide (tid zs (m + 1) ≤ tid zs m))) := Lib.hid (by rw [OK.out]; simp)
      by_cases h4 : tid zs (m + 1) ≤ tid zs m
      · have V := Lib.hid (FAIL.out (by rw [OK.out, decide_eq_true h4]; rfl))
        clear STEP FAIL
        generalize tid zs (m + 1) = i at g0 h1 h4
        generalize tid zs m = j at g3 h4
        generalize trk zs (m + 1) = r at g1 h2
        generalize tag zs (m + 1) = a at g2 h3
        have h4d : decide (i ≤ j) = true := decide_eq_true h4
        have C1 := Lib.hid (fun (W : World) => (show Calls Try.prog 30 #[.int .i64 i, .int .i64 0, .int .i64 99] W fun e w' => e = .returned (.bool true) ∧ W = w' by have h := inRange_any i 0 99 W; rw [h1] at h; exact h))
        have C2 := Lib.hid (fun (W : World) => (show Calls Try.prog 30 #[.int .i64 r, .int .i64 0, .int .i64 50] W fun e w' => e = .returned (.bool true) ∧ W = w' by have h := inRange_any r 0 50 W; rw [h2] at h; exact h))
        have C3 := Lib.hid (fun (W : World) => (show Calls Try.prog 30 #[.int .i64 a, .int .i64 0, .int .i64 20] W fun e w' => e = .returned (.bool true) ∧ W = w' by have h := inRange_any a 0 20 W; rw [h3] at h; exact h))
        clear h1 h2 h3 h4
        go_wp2
        go_quiet ((first | (go_at_call 30; with_reducible exact Calls.quiet_of_same ((C1.out _).mono fun _ _ h => ⟨h.1, h.2.symm⟩)) | (go_at_call 30; with_reducible exact Calls.quiet_of_same ((C2.out _).mono fun _ _ h => ⟨h.1, h.2.symm⟩)) | (go_at_call 30; with_reducible exact Calls.quiet_of_same ((C3.out _).mono fun _ _ h => ⟨h.1, h.2.symm⟩))))
        go_wp2
        go_ret
        exact ⟨ret_bool V.out.symm, HN.out.drewN nq⟩
      · have V := Lib.hid (STEP.out (by rw [OK.out, decide_eq_false h4]; rfl))
        clear STEP FAIL
        generalize tid zs (m + 1) = i at g0 h1 h4
        generalize tid zs m = j at g3 h4
        generalize trk zs (m + 1) = r at g1 h2
        generalize tag zs (m + 1) = a at g2 h3
        have h4d : decide (i ≤ j) = false := decide_eq_false h4
        have C1 := Lib.hid (fun (W : World) => (show Calls Try.prog 30 #[.int .i64 i, .int .i64 0, .int .i64 99] W fun e w' => e = .returned (.bool true) ∧ W = w' by have h := inRange_any i 0 99 W; rw [h1] at h; exact h))
        have C2 := Lib.hid (fun (W : World) => (show Calls Try.prog 30 #[.int .i64 r, .int .i64 0, .int .i64 50] W fun e w' => e = .returned (.bool true) ∧ W = w' by have h := inRange_any r 0 50 W; rw [h2] at h; exact h))
        have C3 := Lib.hid (fun (W : World) => (show Calls Try.prog 30 #[.int .i64 a, .int .i64 0, .int .i64 20] W fun e w' => e = .returned (.bool true) ∧ W = w' by have h := inRange_any a 0 20 W; rw [h3] at h; exact h))
        clear h1 h2 h3 h4
        go_wp2
        go_quiet ((first | (go_at_call 30; with_reducible exact Calls.quiet_of_same ((C1.out _).mono fun _ _ h => ⟨h.1, h.2.symm⟩)) | (go_at_call 30; with_reducible exact Calls.quiet_of_same ((C2.out _).mono fun _ _ h => ⟨h.1, h.2.symm⟩)) | (go_at_call 30; with_reducible exact Calls.quiet_of_same ((C3.out _).mono fun _ _ h => ⟨h.1, h.2.symm⟩))))
        go_wp2
        go_roundw
        case rel => exact ⟨m + 1 + 1, by omega, by go_num, V, Lib.hid (HN.out.drewN nq)⟩
        case measure => simp [intOf]; omega
    · obtain rfl : n = k := by omega
      have HF : Hid (vtk n zs = decide ((n : Int) ≤ 10)) := Lib.hid (by rw [E.out, upB_iff.2 HA.out, Bool.and_true])
      go_wp2
      go_ret
      exact ⟨ret_bool HF.out.symm, HN.out⟩
end Go.Proofs.Ytpkombjmbpgdnaa
