/- The program's spareInFront, walked: what is in front of each size, by the way to justify. Condition: a spare space and up to eight sizes. -/
import Derived.Test.YtcoddhlfhmelkaaRepeat
import Derived.Test.YtcoddhlfhmelkaaShareZ
import Derived.Deep.RegionHeld3
namespace Go.Proofs.Ytcoddhlfhmelkaa
open Go.RowKit

/-- What is in front of each of n sizes. -/
def frontL (s : Int) (n : Nat) (j : Int) : List Int :=
  if j = 1 then (List.replicate n 0).set 0 s else if j = 2 then (List.replicate n 0).set 0 (s / 2) else if j = 3 then splice (List.replicate n 0) 1 (shareA s (onesL (n - 1))) else List.replicate n 0
theorem shareA_ones (s : Int) (n : Nat) (hs : 0 ≤ s ∧ s ≤ 200000) (hn : n ≤ 8) : (shareA s (onesL (n - 1))).length = n - 1 := by
  unfold shareA
  by_cases h : 1 ≤ n - 1
  · have ok : shOk s (onesL (n - 1)) = true := by
      unfold shOk
      rw [Bool.and_eq_true, decide_eq_true_eq]
      exact ⟨hs, rowB_iff.2 ⟨by rw [ones_len]; omega, ones_wts _⟩⟩
    rw [if_pos ok, shareL_len, ones_len]
  · have ok : ¬ shOk s (onesL (n - 1)) = true := by
      unfold shOk
      rw [Bool.and_eq_true]
      intro h'
      have := (rowB_len h'.2).1
      rw [ones_len] at this
      omega
    rw [if_neg ok]
    simp; omega
theorem ints1 {w : World} {g : Nat} {z : Int} (h : w.cell? ⟨g, 0, none⟩ = some (.int .i64 z)) : Ints w (some ⟨g, 0, none⟩) 1 [z] :=
  ⟨rfl, fun _ => ⟨g, 0, rfl, World.block_lt_of_cell? w _ h, fun i hi => by
    obtain rfl : i = 0 := by omega
    exact h⟩⟩
theorem Repeat_any' (c : Nat) (z : Int) (hz : z = (c : Int)) (h : c < 8) (A : Option Addr) (d : Nat) (w : World) (hx : Ints w A 1 [1]) :
    Calls Try.prog 58 #[.slice A 1 d, .int .i64 z] w fun e w' => ∃ g, e = .returned (.slice (some ⟨g, 0, none⟩) c c) ∧ w.heap.size ≤ g ∧ Row w' g (onesL c) ∧ New w w' := by
  subst hz
  exact Repeat_any c h A d w hx
set_option maxRecDepth 100000 in
set_option maxHeartbeats 4000000 in
theorem spare_any (s : Int) (n : Nat) (j : Int) (hs : 0 ≤ s ∧ s ≤ 200000) (hn : 1 ≤ n ∧ n ≤ 8) (w : World) :
    Calls Try.prog 42 #[.int .i64 s, .int .i64 n, .int .i64 j] w fun e w' => ∃ g, e = .returned (.slice (some ⟨g, 0, none⟩) n n) ∧ w.heap.size ≤ g ∧ Row w' g (frontL s n j) ∧ New w w' := by
  obtain ⟨n1, n8⟩ := hn
  obtain ⟨s0, s1⟩ := hs
  obtain ⟨W0, hmk, B0, N0⟩ : ∃ W0, (Instr.makeSlice 23 (.int .i64 (n : Int)) (.int .i64 (n : Int))).run Try.prog w = .ok (.slice (some ⟨w.heap.size, 0, none⟩) n n) W0 ∧ Blk W0 w.heap.size (List.replicate n 0) ∧ New w W0 :=
    ⟨_, run_make_row' (P := Try.prog) 23 3 (.int .i64 0) 8 Try.underlying23 (by kernel_rfl) rfl .i64 .i64 n (by omega) (by omega) w, Blk.made w n, by (repeat (first | exact New.refl _ | assumption | refine New.alloc ?_ _ | refine New.drew ?_ | refine New.drewN ?_ _ | refine New.setCell ?_ (by first | omega | (simp; omega) | (simp; done)) _ | refine New.trans ?_ (by assumption)))⟩
  have i1 : (1 : Int) ≤ (n : Int) := by omega
  have i8 : (n : Int) ≤ 8 := by omega
  have f0 := B0.row.f 0 (by simp; omega)
  have o0 := B0.row.c 0 (by simp; omega)
  have BH := Lib.hid B0; have NH := Lib.hid N0
  have zz := B0.row.lt
  clear B0 N0
  generalize (List.replicate n (0 : Int)).getD 0 0 = z0 at o0
  by_cases h1 : j = 1
  · subst h1
    go_enter Try.func42, Try.ntmps42
    go_wp2
    go_ret
    exact ⟨_, rfl, Nat.le_refl _, BH.out.row.set_ (by simp; omega) s, NH.out.setCell (Nat.le_refl _) _⟩
  by_cases h2 : j = 2
  · subst h2
    clear h1
    go_enter Try.func42, Try.ntmps42
    go_wp2
    go_ret
    exact ⟨_, rfl, Nat.le_refl _, BH.out.row.set_ (by simp; omega) (s / 2), NH.out.setCell (Nat.le_refl _) _⟩
  by_cases h3 : j = 3
  · subst h3
    clear h1 h2
    by_cases hk : n = 1
    · subst hk
      have hmk1 : (Instr.makeSlice 23 (.int .i64 1) (.int .i64 1)).run Try.prog w = .ok (.slice (some ⟨w.heap.size, 0, none⟩) 1 1) W0 := hmk
      clear hmk
      have HH := Lib.hid (shareA_ones s 1 ⟨s0, s1⟩ n8)
      go_enter Try.func42, Try.ntmps42
      go_wp2
      go_region_held3 (fun w' => Hid (New w w'))
        (first | assumption | (refine Lib.hid (NH.out.trans ?_); ((repeat (first | exact New.refl _ | assumption | refine New.alloc ?_ _ | refine New.drew ?_ | refine New.drewN ?_ _ | refine New.setCell ?_ (by first | omega | (simp; omega) | (simp; done)) _ | refine New.trans ?_ (by assumption))); done)))
        (first
          | (go_at_call 58; refine (Repeat_any' 0 0 (by omega) (by omega) _ 1 _ (ints1 (by simp [go_sem]))).mono ?_; rintro e w2 ⟨g2, rfl, hg2, R2, N2⟩; (have B2 : Hid (Blk w2 w.heap.size (List.replicate 1 0)) := Lib.hid (BH.out.new (New.trans (by (repeat (first | exact New.refl _ | assumption | refine New.alloc ?_ _ | refine New.drew ?_ | refine New.drewN ?_ _ | refine New.setCell ?_ (by first | omega | (simp; omega) | (simp; done)) _ | refine New.trans ?_ (by assumption)))) N2))); (have I2 := R2.ints); (rw [ones_len] at I2); (have I2 := Lib.hid I2); (have N2 := Lib.hid (NH.out.trans (New.trans (by (repeat (first | exact New.refl _ | assumption | refine New.alloc ?_ _ | refine New.drew ?_ | refine New.drewN ?_ _ | refine New.setCell ?_ (by first | omega | (simp; omega) | (simp; done)) _ | refine New.trans ?_ (by assumption)))) N2))); clear R2)
          | (go_at_call 48; refine (ShareSpace_ans s (onesL 0) _ 0 _ _ I2.out (by omega)).mono ?_; rintro e w3 ⟨A3, n3, c3, rfl, l3, R3, N3⟩; (have B3 : Hid (Blk w3 w.heap.size (List.replicate 1 0)) := Lib.hid (B2.out.new N3)); (have N3 := Lib.hid (N2.out.trans N3)); (have I3 := Lib.hid (R3.ints l3)); (obtain ⟨w4, hcp, B4, N4⟩ := run_cp w3 3 w.heap.size 0 0 0 A3 n3 c3 _ _ B3.out I3.out 0 (by rw [← l3, HH.out]; exact (Nat.min_self _).symm) (by first | omega | (simp; done) | (simp; omega))); (have N4 := Lib.hid (N4 w N3.out (Nat.le_refl _))); (have B4 := Lib.hid B4); clear R3))
      go_wp2
      go_ret
      refine ⟨_, rfl, Nat.le_refl _, ?_, N4.out⟩
      have h := B4.out.row
      unfold frontL
      rw [if_neg (by omega), if_neg (by omega), if_pos rfl]
      have e : shareA s (onesL 0) = [] := List.eq_nil_of_length_eq_zero HH.out
      rw [Nat.sub_self, e]
      rw [e] at h
      simpa [splice] using h
    · have hn2 : 2 ≤ n := by omega
      have hi2 : (2 : Int) ≤ (n : Int) := by omega
      have HH := Lib.hid (shareA_ones s n ⟨s0, s1⟩ n8)
      have iw : IntKind.i64.wrap ((n : Int) - 1) = (n : Int) - 1 := IntWalk.i64_in _ (by omega)
      go_enter Try.func42, Try.ntmps42
      go_wp2
      go_region_held3 (fun w' => Hid (New w w'))
        (first | assumption | (refine Lib.hid (NH.out.trans ?_); ((repeat (first | exact New.refl _ | assumption | refine New.alloc ?_ _ | refine New.drew ?_ | refine New.drewN ?_ _ | refine New.setCell ?_ (by first | omega | (simp; omega) | (simp; done)) _ | refine New.trans ?_ (by assumption))); done)))
        (first
          | (go_at_call 58; refine (Repeat_any' (n - 1) ((n : Int) - 1) (by omega) (by omega) _ 1 _ (ints1 (by simp [go_sem]))).mono ?_; rintro e w2 ⟨g2, rfl, hg2, R2, N2⟩; (have B2 : Hid (Blk w2 w.heap.size (List.replicate n 0)) := Lib.hid (BH.out.new (New.trans (by (repeat (first | exact New.refl _ | assumption | refine New.alloc ?_ _ | refine New.drew ?_ | refine New.drewN ?_ _ | refine New.setCell ?_ (by first | omega | (simp; omega) | (simp; done)) _ | refine New.trans ?_ (by assumption)))) N2))); (have I2 := R2.ints); (rw [ones_len] at I2); (have I2 := Lib.hid I2); (have N2 := Lib.hid (NH.out.trans (New.trans (by (repeat (first | exact New.refl _ | assumption | refine New.alloc ?_ _ | refine New.drew ?_ | refine New.drewN ?_ _ | refine New.setCell ?_ (by first | omega | (simp; omega) | (simp; done)) _ | refine New.trans ?_ (by assumption)))) N2))); clear R2)
          | (go_at_call 48; refine (ShareSpace_ans s (onesL (n - 1)) _ (n - 1) _ _ I2.out (by omega)).mono ?_; rintro e w3 ⟨A3, n3, c3, rfl, l3, R3, N3⟩; (have B3 : Hid (Blk w3 w.heap.size (List.replicate n 0)) := Lib.hid (B2.out.new N3)); (have N3 := Lib.hid (N2.out.trans N3)); (have I3 := Lib.hid (R3.ints l3)); (obtain ⟨w4, hcp, B4, N4⟩ := run_cp w3 3 w.heap.size 1 (n - 1) (n - 1) A3 n3 c3 _ _ B3.out I3.out (n - 1) (by rw [← l3, HH.out]; exact (Nat.min_self _).symm) (by first | omega | (simp; done) | (simp; omega))); (have N4 := Lib.hid (N4 w N3.out (Nat.le_refl _))); (have B4 := Lib.hid B4); clear R3))
      go_wp2
      go_ret
      refine ⟨_, rfl, Nat.le_refl _, ?_, N4.out⟩
      have h := B4.out.row
      unfold frontL
      rw [if_neg (by omega), if_neg (by omega), if_pos rfl]
      rw [List.take_of_length_le (by rw [HH.out]; exact Nat.le_refl _)] at h
      exact h
  · go_enter Try.func42, Try.ntmps42
    go_wp2
    go_ret
    refine ⟨_, rfl, Nat.le_refl _, ?_, NH.out⟩
    unfold frontL
    rw [if_neg h1, if_neg h2, if_neg h3]
    exact BH.out.row
end Go.Proofs.Ytcoddhlfhmelkaa
