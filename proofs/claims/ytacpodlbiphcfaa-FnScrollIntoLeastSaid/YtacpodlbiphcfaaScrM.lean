/- ClampScroll and ScrollInto of the program and of the reference, walked: both answer as the plain functions do. No condition. -/
import Derived.Test.YtacpodlbiphcfaaInts2
import Derived.Deep.RegionWith
import Derived.Lib.SliceRun
import Derived.RegionTactic
import Derived.BigRegion
namespace Go.Proofs.Ytacpodlbiphcfaa
open Go.RowKit

def vwB (c v : Int) : Bool := decide (0 ≤ c ∧ c ≤ 200000) && decide (0 ≤ v ∧ v ≤ 200000)
def clP (c v a : Int) : Int := mx 0 (mn a (c - v))
def clA (c v a : Int) : Int := if (vwB c v && decide (-200000 ≤ a ∧ a ≤ 200000)) = true then clP c v a else -1
def siB (c v a l h : Int) : Bool := vwB c v && decide (0 ≤ a ∧ a ≤ mx 0 (c - v)) && decide (0 ≤ h ∧ h ≤ c) && decide (0 ≤ l ∧ l ≤ h)
def siA (c v a l h : Int) : Int := if siB c v a l h = true then mn l (mx (h - v) a) else -1
theorem vwB_iff {c v : Int} : vwB c v = true ↔ (0 ≤ c ∧ c ≤ 200000) ∧ 0 ≤ v ∧ v ≤ 200000 := by unfold vwB; simp
theorem siB_iff {c v a l h : Int} : siB c v a l h = true ↔ vwB c v = true ∧ (0 ≤ a ∧ a ≤ mx 0 (c - v)) ∧ (0 ≤ h ∧ h ≤ c) ∧ 0 ≤ l ∧ l ≤ h := by unfold siB; simp [and_assoc]
set_option maxHeartbeats 400000 in
theorem validView_any (c v : Int) (w : World) :
    Calls Try.prog 21 #[.int .i64 c, .int .i64 v] w fun e w' => e = .returned (.bool (vwB c v)) ∧ w = w' := by
  unfold vwB
  cases h1 : decide (0 ≤ c ∧ c ≤ 200000) <;> cases h2 : decide (0 ≤ v ∧ v ≤ 200000)
  all_goals
    go_enter Try.func21, Try.ntmps21
    go_wp2_with (go_at_call 22; refine (within_any _ _ _ _).mono ?_; (first | rw [h1] | rw [h2]); rintro e w' ⟨rfl, rfl⟩)
    go_ret
    exact ⟨rfl, rfl⟩
set_option maxHeartbeats 400000 in
theorem svalidView_any (c v : Int) (w : World) :
    Calls Try.prog 24 #[.int .i64 c, .int .i64 v] w fun e w' => e = .returned (.bool (vwB c v)) ∧ w = w' := by
  unfold vwB
  cases h1 : decide (0 ≤ c ∧ c ≤ 200000) <;> cases h2 : decide (0 ≤ v ∧ v ≤ 200000)
  all_goals
    go_enter Try.func24, Try.ntmps24
    go_wp2_with (go_at_call 25; refine (inRange_any _ _ _ _).mono ?_; (first | rw [h1] | rw [h2]); rintro e w' ⟨rfl, rfl⟩)
    go_ret
    exact ⟨rfl, rfl⟩
set_option maxHeartbeats 400000 in
theorem lastPlace_any (c v : Int) (hv : vwB c v = true) (w : World) :
    Calls Try.prog 23 #[.int .i64 c, .int .i64 v] w fun e w' => e = .returned (.int .i64 (mx 0 (c - v))) ∧ w = w' := by
  obtain ⟨⟨c0, c1⟩, v0, v1⟩ := vwB_iff.1 hv
  clear hv
  have hmx := fun (W : World) (ts : Array TypeId) (t : TypeId) (x y : Int) => run_mx Try.prog W ts t x y
  go_enter Try.func23, Try.ntmps23
  go_wp2
  go_ret
  exact ⟨rfl, rfl⟩
set_option maxHeartbeats 400000 in
theorem sclampScroll_any (c v a : Int) (hv : vwB c v = true) (w : World) :
    Calls Try.prog 26 #[.int .i64 c, .int .i64 v, .int .i64 a] w fun e w' => e = .returned (.int .i64 (clP c v a)) ∧ w = w' := by
  obtain ⟨⟨c0, c1⟩, v0, v1⟩ := vwB_iff.1 hv
  clear hv
  have hmx := fun (W : World) (ts : Array TypeId) (t : TypeId) (x y : Int) => run_mx Try.prog W ts t x y
  have hmn := fun (W : World) (ts : Array TypeId) (t : TypeId) (x y : Int) => run_mn Try.prog W ts t x y
  go_enter Try.func26, Try.ntmps26
  go_wp2
  go_ret
  exact ⟨rfl, rfl⟩
theorem clA_no {c v a : Int} (h : vwB c v = false) : clA c v a = -1 := by unfold clA; rw [h]; rfl
theorem clA_out {c v a : Int} (h : decide (-200000 ≤ a ∧ a ≤ 200000) = false) : clA c v a = -1 := by unfold clA; rw [h, Bool.and_false]; rfl
theorem clA_at {c v a : Int} (h : vwB c v = true) (k : decide (-200000 ≤ a ∧ a ≤ 200000) = true) : clA c v a = clP c v a := by unfold clA; rw [h, k]; rfl
theorem clP_mn (c v a : Int) : mn (mx 0 a) (mx 0 (c - v)) = clP c v a := by unfold clP mn mx; omega
set_option maxHeartbeats 1000000 in
theorem ClampScroll_any (c v a : Int) (w : World) :
    Calls Try.prog 13 #[.int .i64 c, .int .i64 v, .int .i64 a] w fun e w' => e = .returned (.int .i64 (clA c v a)) ∧ w = w' := by
  have hmx := fun (W : World) (ts : Array TypeId) (t : TypeId) (x y : Int) => run_mx Try.prog W ts t x y
  have hmn := fun (W : World) (ts : Array TypeId) (t : TypeId) (x y : Int) => run_mn Try.prog W ts t x y
  cases hv : vwB c v
  · rw [clA_no hv]
    go_enter Try.func13, Try.ntmps13
    go_wp2_with (go_at_call 21; refine (validView_any _ _ _).mono ?_; rw [hv]; rintro e w' ⟨rfl, rfl⟩)
    go_ret
    exact ⟨rfl, rfl⟩
  · cases ha : decide (-200000 ≤ a ∧ a ≤ 200000)
    · rw [clA_out ha]
      go_enter Try.func13, Try.ntmps13
      go_wp2_with (first
        | (go_at_call 21; refine (validView_any _ _ _).mono ?_; rw [hv]; rintro e w' ⟨rfl, rfl⟩)
        | (go_at_call 22; refine (within_any _ _ _ _).mono ?_; rw [ha]; rintro e w' ⟨rfl, rfl⟩))
      go_ret
      exact ⟨rfl, rfl⟩
    · rw [clA_at hv ha, ← clP_mn]
      go_enter Try.func13, Try.ntmps13
      go_wp2_with (first
        | (go_at_call 21; refine (validView_any _ _ _).mono ?_; rw [hv]; rintro e w' ⟨rfl, rfl⟩)
        | (go_at_call 22; refine (within_any _ _ _ _).mono ?_; rw [ha]; rintro e w' ⟨rfl, rfl⟩)
        | (go_at_call 23; refine (lastPlace_any _ _ hv _).mono ?_; rintro e w' ⟨rfl, rfl⟩))
      go_ret
      exact ⟨rfl, rfl⟩
set_option maxHeartbeats 1000000 in
theorem SClampScroll_any (c v a : Int) (w : World) :
    Calls Try.prog 14 #[.int .i64 c, .int .i64 v, .int .i64 a] w fun e w' => e = .returned (.int .i64 (clA c v a)) ∧ w = w' := by
  cases hv : vwB c v
  · rw [clA_no hv]
    go_enter Try.func14, Try.ntmps14
    go_wp2_with (go_at_call 24; refine (svalidView_any _ _ _).mono ?_; rw [hv]; rintro e w' ⟨rfl, rfl⟩)
    go_ret
    exact ⟨rfl, rfl⟩
  · cases ha : decide (-200000 ≤ a ∧ a ≤ 200000)
    · rw [clA_out ha]
      go_enter Try.func14, Try.ntmps14
      go_wp2_with (first
        | (go_at_call 24; refine (svalidView_any _ _ _).mono ?_; rw [hv]; rintro e w' ⟨rfl, rfl⟩)
        | (go_at_call 25; refine (inRange_any _ _ _ _).mono ?_; rw [ha]; rintro e w' ⟨rfl, rfl⟩))
      go_ret
      exact ⟨rfl, rfl⟩
    · rw [clA_at hv ha]
      go_enter Try.func14, Try.ntmps14
      go_wp2_with (first
        | (go_at_call 24; refine (svalidView_any _ _ _).mono ?_; rw [hv]; rintro e w' ⟨rfl, rfl⟩)
        | (go_at_call 25; refine (inRange_any _ _ _ _).mono ?_; rw [ha]; rintro e w' ⟨rfl, rfl⟩)
        | (go_at_call 26; refine (sclampScroll_any _ _ _ hv _).mono ?_; rintro e w' ⟨rfl, rfl⟩))
      go_ret
      exact ⟨rfl, rfl⟩
theorem siA_no {c v a l h : Int} (k : siB c v a l h = false) : siA c v a l h = -1 := by unfold siA; rw [k]; rfl
theorem siA_at {c v a l h : Int} (k : siB c v a l h = true) : siA c v a l h = mn l (mx (h - v) a) := by unfold siA; rw [k]; rfl
set_option maxHeartbeats 2000000 in
theorem ScrollInto_any (c v a l h : Int) (w : World) :
    Calls Try.prog 16 #[.int .i64 c, .int .i64 v, .int .i64 a, .int .i64 l, .int .i64 h] w fun e w' => e = .returned (.int .i64 (siA c v a l h)) ∧ w = w' := by
  have hmx := fun (W : World) (ts : Array TypeId) (t : TypeId) (x y : Int) => run_mx Try.prog W ts t x y
  have hmn := fun (W : World) (ts : Array TypeId) (t : TypeId) (x y : Int) => run_mn Try.prog W ts t x y
  cases hv : vwB c v
  · rw [siA_no (by unfold siB; rw [hv]; rfl)]
    go_enter Try.func16, Try.ntmps16
    go_wp2_with (go_at_call 21; refine (validView_any _ _ _).mono ?_; rw [hv]; rintro e w' ⟨rfl, rfl⟩)
    go_ret
    exact ⟨rfl, rfl⟩
  · obtain ⟨⟨c0, c1⟩, v0, v1⟩ := vwB_iff.1 hv
    have lp : mx 0 (c - v) ≤ 200000 := by unfold mx; omega
    obtain ⟨m, hm⟩ : ∃ m, mx 0 (c - v) = m := ⟨_, rfl⟩
    have HV := Lib.hid hv
    have HM := Lib.hid hm
    rw [hm] at lp
    have hE : siB c v a l h = (decide (0 ≤ a ∧ a ≤ m) && decide (0 ≤ h ∧ h ≤ c) && decide (0 ≤ l ∧ l ≤ h)) := by unfold siB; rw [hv, hm]; rfl
    clear hv hm
    cases h1 : decide (0 ≤ a ∧ a ≤ m) <;> cases h2 : decide (0 ≤ h ∧ h ≤ c) <;> cases h3 : decide (0 ≤ l ∧ l ≤ h)
    all_goals
      rw [h1, h2, h3] at hE
      simp only [Bool.and_true, Bool.and_false] at hE
      try obtain ⟨a0, a1⟩ := of_decide_eq_true h1
      try obtain ⟨h0, hh1⟩ := of_decide_eq_true h2
      try obtain ⟨l0, l1⟩ := of_decide_eq_true h3
      first | rw [siA_no hE] | rw [siA_at hE]
      clear hE
      go_enter Try.func16, Try.ntmps16
      go_wp2_with (first
        | (go_at_call 21; refine (validView_any _ _ _).mono ?_; rw [HV.out]; rintro e w' ⟨rfl, rfl⟩)
        | (go_at_call 22; refine (within_any _ _ _ _).mono ?_; (first | rw [h1] | rw [h2] | rw [h3]); rintro e w' ⟨rfl, rfl⟩)
        | (go_at_call 23; refine (lastPlace_any _ _ HV.out _).mono ?_; rw [HM.out]; rintro e w' ⟨rfl, rfl⟩))
      go_ret
      exact ⟨rfl, rfl⟩
theorem siB_iff2 {c v a l h : Int} (hv : vwB c v = true) : siB c v a l h = true ↔ clP c v a = a ∧ (0 ≤ l ∧ l ≤ c) ∧ l ≤ h ∧ h ≤ c := by
  rw [siB_iff]
  constructor
  · rintro ⟨_, h1, h2, h3⟩
    unfold mx at h1
    refine ⟨?_, by omega, by omega, by omega⟩
    unfold clP mx mn; omega
  · rintro ⟨h1, h2, h3⟩
    unfold clP mx mn at h1
    refine ⟨hv, ?_, by omega, by omega, by omega⟩
    unfold mx; omega
set_option maxHeartbeats 4000000 in
theorem SScrollInto_in (c v a l h : Int) (w : World) (hv : vwB c v = true) (hp : clP c v a = a) (hl : decide (0 ≤ l ∧ l ≤ c) = true) (hh : decide (l ≤ h ∧ h ≤ c) = true)
    (c0 : 0 ≤ c) (c1 : c ≤ 200000) (v0 : 0 ≤ v) (v1 : v ≤ 200000) (l0 : 0 ≤ l) (l1 : l ≤ c) (h0 : l ≤ h) (h1 : h ≤ c) (a0 : 0 ≤ a) (a1 : a ≤ 200000) :
    Calls Try.prog 17 #[.int .i64 c, .int .i64 v, .int .i64 a, .int .i64 l, .int .i64 h] w fun e w' => e = .returned (.int .i64 (mn l (mx (h - v) a))) ∧ w = w' := by
  have HV := Lib.hid hv; have HL := Lib.hid hl; have HH := Lib.hid hh
  have hpb : (clP c v a != a) = false := by simpa using hp
  have EA : Hid (a ≤ l → h ≤ a + v → a = mn l (mx (h - v) a)) := Lib.hid (by intro x y; unfold mn mx; omega)
  have EB : Hid (¬ (a ≤ l ∧ h ≤ a + v) → a < h - v → h - v ≤ l → clP c v (h - v) = mn l (mx (h - v) a)) := Lib.hid (by intro x y z; unfold clP mn mx; omega)
  have EC : Hid (¬ (a ≤ l ∧ h ≤ a + v) → ¬ (a < h - v ∧ h - v ≤ l) → clP c v l = mn l (mx (h - v) a)) := Lib.hid (by unfold clP mn mx at hp; intro x y; unfold clP mn mx; omega)
  clear hv hl hh hp
  generalize mn l (mx (h - v) a) = res at EA EB EC ⊢
  by_cases q1 : a ≤ l <;> by_cases q2 : h ≤ a + v
  · have E := Lib.hid (EA.out q1 q2)
    clear EA EB EC
    go_enter Try.func17, Try.ntmps17
    go_wp2_with (first
      | (go_at_call 24; ((with_reducible refine (svalidView_any _ _ _).mono ?_); rw [HV.out]; rintro e w' ⟨rfl, rfl⟩))
      | (go_at_call 26; ((with_reducible refine (sclampScroll_any c v a HV.out _).mono ?_); rintro e w' ⟨rfl, rfl⟩))
      | (go_at_call 25; ((with_reducible refine (inRange_any _ _ _ _).mono ?_); (first | rw [HL.out] | rw [HH.out]); rintro e w' ⟨rfl, rfl⟩)))
    go_ret
    exact ⟨(by rw [← E.out]; rfl), rfl⟩
  all_goals
    by_cases q3 : a < h - v <;> by_cases q4 : h - v ≤ l
    all_goals
      go_enter Try.func17, Try.ntmps17
      go_wp2_with (first
        | (go_at_call 24; ((with_reducible refine (svalidView_any _ _ _).mono ?_); rw [HV.out]; rintro e w' ⟨rfl, rfl⟩))
        | (go_at_call 26; ((with_reducible refine (sclampScroll_any c v a HV.out _).mono ?_); rintro e w' ⟨rfl, rfl⟩))
        | (go_at_call 25; ((with_reducible refine (inRange_any _ _ _ _).mono ?_); (first | rw [HL.out] | rw [HH.out]); rintro e w' ⟨rfl, rfl⟩))
        | (go_at_call 26; ((with_reducible refine (sclampScroll_any c v (h - v) HV.out _).mono ?_); rw [EB.out (by omega) (by omega) (by omega)]; rintro e w' ⟨rfl, rfl⟩))
        | (go_at_call 26; ((with_reducible refine (sclampScroll_any c v l HV.out _).mono ?_); rw [EC.out (by omega) (by omega)]; rintro e w' ⟨rfl, rfl⟩)))
      all_goals go_ret
      all_goals exact ⟨rfl, rfl⟩
set_option maxHeartbeats 2000000 in
theorem SScrollInto_any (c v a l h : Int) (w : World) :
    Calls Try.prog 17 #[.int .i64 c, .int .i64 v, .int .i64 a, .int .i64 l, .int .i64 h] w fun e w' => e = .returned (.int .i64 (siA c v a l h)) ∧ w = w' := by
  cases hv : vwB c v
  · rw [siA_no (by unfold siB; rw [hv]; rfl)]
    go_enter Try.func17, Try.ntmps17
    go_wp2_with (go_at_call 24; refine (svalidView_any _ _ _).mono ?_; rw [hv]; rintro e w' ⟨rfl, rfl⟩)
    go_ret
    exact ⟨rfl, rfl⟩
  · obtain ⟨⟨c0, c1⟩, v0, v1⟩ := vwB_iff.1 hv
    have HV := Lib.hid hv
    by_cases hp : clP c v a = a
    · have hpb : (clP c v a != a) = false := by simpa using hp
      by_cases hl : 0 ≤ l ∧ l ≤ c
      · by_cases hh : l ≤ h ∧ h ≤ c
        · rw [siA_at ((siB_iff2 hv).2 ⟨hp, hl, hh⟩)]
          have HL := Lib.hid (decide_eq_true hl); have HH := Lib.hid (decide_eq_true hh)
          have HP := Lib.hid hp
          have ab : 0 ≤ a ∧ a ≤ 200000 := by unfold clP mx mn at hp; omega
          obtain ⟨l0, l1⟩ := hl
          obtain ⟨h0, h1⟩ := hh
          exact SScrollInto_in c v a l h w HV.out HP.out HL.out HH.out c0 c1 v0 v1 l0 l1 h0 h1 ab.1 ab.2
        · rw [siA_no (by cases hq : siB c v a l h with | false => rfl | true => exact absurd ((siB_iff2 hv).1 hq).2.2 hh)]
          have HL := Lib.hid (decide_eq_true hl); have HH := Lib.hid (decide_eq_false hh)
          clear hl hh hp
          go_enter Try.func17, Try.ntmps17
          go_wp2_with (first
            | (go_at_call 24; refine (svalidView_any _ _ _).mono ?_; rw [HV.out]; rintro e w' ⟨rfl, rfl⟩)
            | (go_at_call 26; refine (sclampScroll_any c v a HV.out _).mono ?_; rintro e w' ⟨rfl, rfl⟩)
            | (go_at_call 25; refine (inRange_any _ _ _ _).mono ?_; (first | rw [HL.out] | rw [HH.out]); rintro e w' ⟨rfl, rfl⟩))
          go_ret
          exact ⟨rfl, rfl⟩
      · rw [siA_no (by cases hq : siB c v a l h with | false => rfl | true => exact absurd ((siB_iff2 hv).1 hq).2.1 hl)]
        have HL := Lib.hid (decide_eq_false hl)
        clear hl hp
        go_enter Try.func17, Try.ntmps17
        go_wp2_with (first
          | (go_at_call 24; refine (svalidView_any _ _ _).mono ?_; rw [HV.out]; rintro e w' ⟨rfl, rfl⟩)
          | (go_at_call 26; refine (sclampScroll_any c v a HV.out _).mono ?_; rintro e w' ⟨rfl, rfl⟩)
          | (go_at_call 25; refine (inRange_any _ _ _ _).mono ?_; rw [HL.out]; rintro e w' ⟨rfl, rfl⟩))
        go_ret
        exact ⟨rfl, rfl⟩
    · rw [siA_no (by cases hq : siB c v a l h with | false => rfl | true => exact absurd ((siB_iff2 hv).1 hq).1 hp)]
      have hpb : (clP c v a != a) = true := by simpa using hp
      clear hp
      go_enter Try.func17, Try.ntmps17
      go_wp2_with (first
        | (go_at_call 24; refine (svalidView_any _ _ _).mono ?_; rw [HV.out]; rintro e w' ⟨rfl, rfl⟩)
        | (go_at_call 26; refine (sclampScroll_any c v a HV.out _).mono ?_; rintro e w' ⟨rfl, rfl⟩))
      go_ret
      exact ⟨rfl, rfl⟩
end Go.Proofs.Ytacpodlbiphcfaa
