/- The helpers of the exact laws on slices of Box: copied, measured, compared and marked. Conditions: the slices can be read, or lie in a block of the call's own. -/
import Derived.Test.YtffggmjhaaehlaaGreatDoorSts
namespace Go.Proofs.YtffggmjhaaehlaaGreatDoor
open Go.RowKit

theorem mkBox (n : Nat) (hn : n ≤ 1048576) (W : World) : (Instr.makeSlice 22 (.int .i64 (n : Int)) (.int .i64 (n : Int))).run Tryz.prog W = .ok (.slice (some ⟨W.heap.size, 0, none⟩) n n) (W.alloc (.cells (madeCells #[Value.int .i64 0, Value.int .i64 0, Value.int .i64 0, Value.int .i64 0, Value.int .i64 0, Value.int .i64 0, Value.int .i64 0, Value.int .i64 0, Value.int .i64 0] (n * 9)) 38)) := by
  have hinfo : (Tryz.prog.info? 38).map (fun i => (i.zero, i.size, i.bytes)) = some (some (.agg #[Value.int .i64 0, Value.int .i64 0, Value.int .i64 0, Value.int .i64 0, Value.int .i64 0, Value.int .i64 0, Value.int .i64 0, Value.int .i64 0, Value.int .i64 0]), 9, 72) := by kernel_rfl
  obtain ⟨i, hi, hzz⟩ := Option.map_eq_some_iff.1 hinfo
  simp only [Prod.mk.injEq] at hzz
  obtain ⟨hz, hs, hb⟩ := hzz
  have h := run_make (P := Tryz.prog) W 22 38 i (.agg #[Value.int .i64 0, Value.int .i64 0, Value.int .i64 0, Value.int .i64 0, Value.int .i64 0, Value.int .i64 0, Value.int .i64 0, Value.int .i64 0, Value.int .i64 0]) Tryz.underlying22 hi hz .i64 .i64 (n : Int) (n : Int) (by omega) (by omega) (by rw [hb]; omega) (by omega)
  rw [hs] at h
  exact h
theorem zeroBox (i : Nat) : (#[Value.int .i64 0, Value.int .i64 0, Value.int .i64 0, Value.int .i64 0, Value.int .i64 0, Value.int .i64 0, Value.int .i64 0, Value.int .i64 0, Value.int .i64 0] : Array Value)[i % (#[Value.int .i64 0, Value.int .i64 0, Value.int .i64 0, Value.int .i64 0, Value.int .i64 0, Value.int .i64 0, Value.int .i64 0, Value.int .i64 0, Value.int .i64 0] : Array Value).size]! = .int .i64 0 := by
  have h : i % 9 < 9 := Nat.mod_lt _ (by omega)
  have hs : (#[Value.int .i64 0, Value.int .i64 0, Value.int .i64 0, Value.int .i64 0, Value.int .i64 0, Value.int .i64 0, Value.int .i64 0, Value.int .i64 0, Value.int .i64 0] : Array Value).size = 9 := rfl
  rw [hs]
  generalize i % 9 = j at h
  match j, h with
  | 0, _ => rfl
  | 1, _ => rfl
  | 2, _ => rfl
  | 3, _ => rfl
  | 4, _ => rfl
  | 5, _ => rfl
  | 6, _ => rfl
  | 7, _ => rfl
  | 8, _ => rfl
  | j + 9, h => omega
theorem rowBox_step {w2 : World} {g k n : Nat} {xs : List Int} (r : Row w2 g (upTo (k * 9) xs)) (hx : xs.length = n * 9) (hlt : k < n) : Row (((((((((w2.setCell ⟨g, k * 9, none⟩ (.int .i64 (xs.getD (k * 9) 0))).setCell ⟨g, k * 9 + 1, none⟩ (.int .i64 (xs.getD (k * 9 + 1) 0))).setCell ⟨g, k * 9 + 2, none⟩ (.int .i64 (xs.getD (k * 9 + 2) 0))).setCell ⟨g, k * 9 + 3, none⟩ (.int .i64 (xs.getD (k * 9 + 3) 0))).setCell ⟨g, k * 9 + 4, none⟩ (.int .i64 (xs.getD (k * 9 + 4) 0))).setCell ⟨g, k * 9 + 5, none⟩ (.int .i64 (xs.getD (k * 9 + 5) 0))).setCell ⟨g, k * 9 + 6, none⟩ (.int .i64 (xs.getD (k * 9 + 6) 0))).setCell ⟨g, k * 9 + 7, none⟩ (.int .i64 (xs.getD (k * 9 + 7) 0))).setCell ⟨g, k * 9 + 8, none⟩ (.int .i64 (xs.getD (k * 9 + 8) 0))) g (upTo ((k + 1) * 9) xs) := by
  have lq : ∀ j, j < 9 → k * 9 + j < xs.length := fun j hj => by rw [hx]; exact idx_lt hlt hj
  have r := r.set_ (k := k * 9) (by rw [upTo_len _ _ (by have := lq 0 (by omega); omega)]; exact lq 0 (by omega)) (xs.getD (k * 9) 0)
  rw [upTo_step (k * 9) xs (by have := lq 0 (by omega); omega)] at r
  have r := r.set_ (k := k * 9 + 1) (by rw [upTo_len _ _ (by have := lq 1 (by omega); omega)]; exact lq 1 (by omega)) (xs.getD (k * 9 + 1) 0)
  rw [upTo_step (k * 9 + 1) xs (by have := lq 1 (by omega); omega)] at r
  have r := r.set_ (k := k * 9 + 2) (by rw [upTo_len _ _ (by have := lq 2 (by omega); omega)]; exact lq 2 (by omega)) (xs.getD (k * 9 + 2) 0)
  rw [upTo_step (k * 9 + 2) xs (by have := lq 2 (by omega); omega)] at r
  have r := r.set_ (k := k * 9 + 3) (by rw [upTo_len _ _ (by have := lq 3 (by omega); omega)]; exact lq 3 (by omega)) (xs.getD (k * 9 + 3) 0)
  rw [upTo_step (k * 9 + 3) xs (by have := lq 3 (by omega); omega)] at r
  have r := r.set_ (k := k * 9 + 4) (by rw [upTo_len _ _ (by have := lq 4 (by omega); omega)]; exact lq 4 (by omega)) (xs.getD (k * 9 + 4) 0)
  rw [upTo_step (k * 9 + 4) xs (by have := lq 4 (by omega); omega)] at r
  have r := r.set_ (k := k * 9 + 5) (by rw [upTo_len _ _ (by have := lq 5 (by omega); omega)]; exact lq 5 (by omega)) (xs.getD (k * 9 + 5) 0)
  rw [upTo_step (k * 9 + 5) xs (by have := lq 5 (by omega); omega)] at r
  have r := r.set_ (k := k * 9 + 6) (by rw [upTo_len _ _ (by have := lq 6 (by omega); omega)]; exact lq 6 (by omega)) (xs.getD (k * 9 + 6) 0)
  rw [upTo_step (k * 9 + 6) xs (by have := lq 6 (by omega); omega)] at r
  have r := r.set_ (k := k * 9 + 7) (by rw [upTo_len _ _ (by have := lq 7 (by omega); omega)]; exact lq 7 (by omega)) (xs.getD (k * 9 + 7) 0)
  rw [upTo_step (k * 9 + 7) xs (by have := lq 7 (by omega); omega)] at r
  have r := r.set_ (k := k * 9 + 8) (by rw [upTo_len _ _ (by have := lq 8 (by omega); omega)]; exact lq 8 (by omega)) (xs.getD (k * 9 + 8) 0)
  rw [upTo_step (k * 9 + 8) xs (by have := lq 8 (by omega); omega)] at r
  rw [Nat.add_mul, Nat.one_mul]
  exact r
set_option maxHeartbeats 400000 in
theorem eqBox_same (x0 x1 x2 x3 x4 x5 x6 x7 x8 : Int) (w : World) :
    Calls Tryz.prog 23 #[.agg #[.int .i64 x0, .int .i64 x1, .int .i64 x2, .int .i64 x3, .int .i64 x4, .int .i64 x5, .int .i64 x6, .int .i64 x7, .int .i64 x8], .agg #[.int .i64 x0, .int .i64 x1, .int .i64 x2, .int .i64 x3, .int .i64 x4, .int .i64 x5, .int .i64 x6, .int .i64 x7, .int .i64 x8]] w fun e w' => e = .returned (.bool true) ∧ New w w' := by
  go_enter Tryz.func23, Tryz.ntmps23
  go_wp2
  go_ret
  exact ⟨rfl, by (repeat (first | exact New.refl _ | assumption | refine New.alloc ?_ _ | refine New.drew ?_ | refine New.drewN ?_ _ | refine New.setCell ?_ (by first | omega | (simp; omega) | (simp; done)) _ | refine New.trans ?_ (by assumption)))⟩
set_option maxRecDepth 100000 in
set_option maxHeartbeats 2000000 in
theorem eqBoxS_any (A B : Option Addr) (n n' c d : Nat) (xs : List Int) (hn : n ≤ 1048576) (hn' : n' ≤ 1048576) (w : World) (hx : Sts 9 w A n xs) (hy : Sts 9 w B n' xs) :
    Calls Tryz.prog 8 #[.slice A n c, .slice B n' d] w fun e w' => e = .returned (.bool true) ∧ New w w' := by
  have HX := Lib.hid hx; have HY := Lib.hid hy
  obtain rfl : n = n' := by have h1 := hx.len; have h2 := hy.len; omega
  clear hx hy hn'
  go_enter Tryz.func8, Tryz.ntmps8
  go_wp2
  go_loopw [5] (fun i wr => ∃ k : Nat, k ≤ n ∧ i = .int .i64 k ∧ Hid (New w wr)) (fun i _ => n - (intOf i).toNat)
  case atStart => exact ⟨0, Nat.zero_le _, rfl, Lib.hid (New.refl _)⟩
  case round =>
    obtain ⟨k, hk, rfl, HN⟩ := hrel
    by_cases hlt : k < n
    · obtain ⟨b, off, rfl, hb, hc⟩ := HX.out.at_ (by omega)
      obtain ⟨b', off', rfl, hb', hc'⟩ := HY.out.at_ (by omega)
      have g0 : wr.cell? ⟨b, off + k * 9, none⟩ = some (.int .i64 (xs.getD (k * 9) 0)) := (HN.out.cells b _ hb).trans (hc (k * 9) (by have := idx_lt (m := 9) (j := 0) hlt (by omega); omega)); have g0' : wr.cell? ⟨b', off' + k * 9, none⟩ = some (.int .i64 (xs.getD (k * 9) 0)) := (HN.out.cells b' _ hb').trans (hc' (k * 9) (by have := idx_lt (m := 9) (j := 0) hlt (by omega); omega))
      have g1 : wr.cell? ⟨b, off + k * 9 + 1, none⟩ = some (.int .i64 (xs.getD (k * 9 + 1) 0)) := (HN.out.cells b _ hb).trans (hc (k * 9 + 1) (by have := idx_lt (m := 9) (j := 1) hlt (by omega); omega)); have g1' : wr.cell? ⟨b', off' + k * 9 + 1, none⟩ = some (.int .i64 (xs.getD (k * 9 + 1) 0)) := (HN.out.cells b' _ hb').trans (hc' (k * 9 + 1) (by have := idx_lt (m := 9) (j := 1) hlt (by omega); omega))
      have g2 : wr.cell? ⟨b, off + k * 9 + 2, none⟩ = some (.int .i64 (xs.getD (k * 9 + 2) 0)) := (HN.out.cells b _ hb).trans (hc (k * 9 + 2) (by have := idx_lt (m := 9) (j := 2) hlt (by omega); omega)); have g2' : wr.cell? ⟨b', off' + k * 9 + 2, none⟩ = some (.int .i64 (xs.getD (k * 9 + 2) 0)) := (HN.out.cells b' _ hb').trans (hc' (k * 9 + 2) (by have := idx_lt (m := 9) (j := 2) hlt (by omega); omega))
      have g3 : wr.cell? ⟨b, off + k * 9 + 3, none⟩ = some (.int .i64 (xs.getD (k * 9 + 3) 0)) := (HN.out.cells b _ hb).trans (hc (k * 9 + 3) (by have := idx_lt (m := 9) (j := 3) hlt (by omega); omega)); have g3' : wr.cell? ⟨b', off' + k * 9 + 3, none⟩ = some (.int .i64 (xs.getD (k * 9 + 3) 0)) := (HN.out.cells b' _ hb').trans (hc' (k * 9 + 3) (by have := idx_lt (m := 9) (j := 3) hlt (by omega); omega))
      have g4 : wr.cell? ⟨b, off + k * 9 + 4, none⟩ = some (.int .i64 (xs.getD (k * 9 + 4) 0)) := (HN.out.cells b _ hb).trans (hc (k * 9 + 4) (by have := idx_lt (m := 9) (j := 4) hlt (by omega); omega)); have g4' : wr.cell? ⟨b', off' + k * 9 + 4, none⟩ = some (.int .i64 (xs.getD (k * 9 + 4) 0)) := (HN.out.cells b' _ hb').trans (hc' (k * 9 + 4) (by have := idx_lt (m := 9) (j := 4) hlt (by omega); omega))
      have g5 : wr.cell? ⟨b, off + k * 9 + 5, none⟩ = some (.int .i64 (xs.getD (k * 9 + 5) 0)) := (HN.out.cells b _ hb).trans (hc (k * 9 + 5) (by have := idx_lt (m := 9) (j := 5) hlt (by omega); omega)); have g5' : wr.cell? ⟨b', off' + k * 9 + 5, none⟩ = some (.int .i64 (xs.getD (k * 9 + 5) 0)) := (HN.out.cells b' _ hb').trans (hc' (k * 9 + 5) (by have := idx_lt (m := 9) (j := 5) hlt (by omega); omega))
      have g6 : wr.cell? ⟨b, off + k * 9 + 6, none⟩ = some (.int .i64 (xs.getD (k * 9 + 6) 0)) := (HN.out.cells b _ hb).trans (hc (k * 9 + 6) (by have := idx_lt (m := 9) (j := 6) hlt (by omega); omega)); have g6' : wr.cell? ⟨b', off' + k * 9 + 6, none⟩ = some (.int .i64 (xs.getD (k * 9 + 6) 0)) := (HN.out.cells b' _ hb').trans (hc' (k * 9 + 6) (by have := idx_lt (m := 9) (j := 6) hlt (by omega); omega))
      have g7 : wr.cell? ⟨b, off + k * 9 + 7, none⟩ = some (.int .i64 (xs.getD (k * 9 + 7) 0)) := (HN.out.cells b _ hb).trans (hc (k * 9 + 7) (by have := idx_lt (m := 9) (j := 7) hlt (by omega); omega)); have g7' : wr.cell? ⟨b', off' + k * 9 + 7, none⟩ = some (.int .i64 (xs.getD (k * 9 + 7) 0)) := (HN.out.cells b' _ hb').trans (hc' (k * 9 + 7) (by have := idx_lt (m := 9) (j := 7) hlt (by omega); omega))
      have g8 : wr.cell? ⟨b, off + k * 9 + 8, none⟩ = some (.int .i64 (xs.getD (k * 9 + 8) 0)) := (HN.out.cells b _ hb).trans (hc (k * 9 + 8) (by have := idx_lt (m := 9) (j := 8) hlt (by omega); omega)); have g8' : wr.cell? ⟨b', off' + k * 9 + 8, none⟩ = some (.int .i64 (xs.getD (k * 9 + 8) 0)) := (HN.out.cells b' _ hb').trans (hc' (k * 9 + 8) (by have := idx_lt (m := 9) (j := 8) hlt (by omega); omega))
      clear hc hc'
      generalize xs.getD (k * 9) 0 = y0 at g0 g0'
      generalize xs.getD (k * 9 + 1) 0 = y1 at g1 g1'
      generalize xs.getD (k * 9 + 2) 0 = y2 at g2 g2'
      generalize xs.getD (k * 9 + 3) 0 = y3 at g3 g3'
      generalize xs.getD (k * 9 + 4) 0 = y4 at g4 g4'
      generalize xs.getD (k * 9 + 5) 0 = y5 at g5 g5'
      generalize xs.getD (k * 9 + 6) 0 = y6 at g6 g6'
      generalize xs.getD (k * 9 + 7) 0 = y7 at g7 g7'
      generalize xs.getD (k * 9 + 8) 0 = y8 at g8 g8'
      have k0 : (0 : Int) ≤ (k : Int) := by omega
      have k1 : (k : Int) < (n : Int) := by omega
      go_wp2
      go_still_tail 8, (by kernel_rfl)
      change wpList _ _ _ _ _ wr.drew
      have HN1 := Lib.hid HN.out.drew
      generalize wr.drew = w1 at HN1 ⊢
      go_wp2_with fail
      refine (eqBox_same _ _ _ _ _ _ _ _ _ _).mono ?_
      rintro e w2 ⟨rfl, h2⟩
      have HN2 := Lib.hid (HN1.out.trans h2)
      clear h2
      go_wp2
      go_roundw
      case rel => exact ⟨k + 1, by omega, by go_num, HN2⟩
      case measure => simp [intOf]; omega
    · have hk' : k = n := by omega
      subst hk'
      go_wp2
      go_ret
      exact ⟨rfl, HN.out⟩
theorem markBox_none (A : Option Addr) (c : Nat) (k0 : Int) (w : World) : Calls Tryz.prog 9 #[.slice A 0 c, .int .i64 k0] w fun e w' => e = .returned (.int .i64 k0) ∧ w = w' := by
  go_enter Tryz.func9, Tryz.ntmps9
  go_wp2
  go_loopw [1, 5] (fun s i wr => s = .int .i64 k0 ∧ i = .int .i64 0 ∧ wr = w) (fun _ _ _ => 0)
  case atStart => exact ⟨rfl, rfl, rfl⟩
  case round =>
    obtain ⟨rfl, rfl, rfl⟩ := hrel
    go_wp2
    go_ret
    exact ⟨rfl, rfl⟩
set_option maxHeartbeats 2000000 in
theorem markBox_row (g n c : Nat) (zs : List Int) (k0 : Int) (h0 : 0 ≤ k0) (h1 : k0 ≤ 100000000) (hn : n ≤ 1048576) (hz : zs.length = n * 9) (w : World) (hx : Row w g zs) :
    Calls Tryz.prog 9 #[.slice (some ⟨g, 0, none⟩) n c, .int .i64 k0] w fun e w' => e = .returned (.int .i64 (k0 + ((n * 9 : Nat) : Int))) ∧ Row w' g (marks k0 (n * 9)) ∧ w.grownBy w' (some g) := by
  have HX := Lib.hid hx
  have HZ := Lib.hid hz
  clear hx hz
  go_enter Tryz.func9, Tryz.ntmps9
  go_wp2
  go_loopw [1, 5] (fun s i wr => ∃ k : Nat, k ≤ n ∧ i = .int .i64 k ∧ s = .int .i64 (k0 + (k : Int) * 9) ∧ Hid (Row wr g (markTo k0 (k * 9) zs)) ∧ Hid (w.grownBy wr (some g))) (fun _ i _ => n - (intOf i).toNat)
  case atStart => exact ⟨0, Nat.zero_le _, rfl, by simp, Lib.hid (by simpa [markTo, marks] using HX.out), Lib.hid (World.grownBy.refl _ _)⟩
  case round =>
    obtain ⟨k, hk, rfl, rfl, HR, HG⟩ := hrel
    by_cases hlt : k < n
    · have lq : ∀ j, j < 9 → k * 9 + j < zs.length := fun j hj => by rw [HZ.out]; exact idx_lt hlt hj
      have LM := Lib.hid (markTo_len k0 (k * 9) zs (by have := lq 0 (by omega); omega))
      have f0 := HR.out.f (k * 9) (by rw [LM.out]; exact lq 0 (by omega)); have o0 := HR.out.c (k * 9) (by rw [LM.out]; exact lq 0 (by omega))
      have f1 := HR.out.f (k * 9 + 1) (by rw [LM.out]; exact lq 1 (by omega)); have o1 := HR.out.c (k * 9 + 1) (by rw [LM.out]; exact lq 1 (by omega))
      have f2 := HR.out.f (k * 9 + 2) (by rw [LM.out]; exact lq 2 (by omega)); have o2 := HR.out.c (k * 9 + 2) (by rw [LM.out]; exact lq 2 (by omega))
      have f3 := HR.out.f (k * 9 + 3) (by rw [LM.out]; exact lq 3 (by omega)); have o3 := HR.out.c (k * 9 + 3) (by rw [LM.out]; exact lq 3 (by omega))
      have f4 := HR.out.f (k * 9 + 4) (by rw [LM.out]; exact lq 4 (by omega)); have o4 := HR.out.c (k * 9 + 4) (by rw [LM.out]; exact lq 4 (by omega))
      have f5 := HR.out.f (k * 9 + 5) (by rw [LM.out]; exact lq 5 (by omega)); have o5 := HR.out.c (k * 9 + 5) (by rw [LM.out]; exact lq 5 (by omega))
      have f6 := HR.out.f (k * 9 + 6) (by rw [LM.out]; exact lq 6 (by omega)); have o6 := HR.out.c (k * 9 + 6) (by rw [LM.out]; exact lq 6 (by omega))
      have f7 := HR.out.f (k * 9 + 7) (by rw [LM.out]; exact lq 7 (by omega)); have o7 := HR.out.c (k * 9 + 7) (by rw [LM.out]; exact lq 7 (by omega))
      have f8 := HR.out.f (k * 9 + 8) (by rw [LM.out]; exact lq 8 (by omega)); have o8 := HR.out.c (k * 9 + 8) (by rw [LM.out]; exact lq 8 (by omega))
      have r := HR.out
      have r := r.set_ (k := k * 9) (by rw [markTo_len _ _ _ (by have := lq 0 (by omega); omega)]; exact lq 0 (by omega)) (k0 + (k : Int) * 9)
      rw [show k0 + (k : Int) * 9 = k0 + ((k * 9 : Nat) : Int) by omega, markTo_step k0 (k * 9) zs (by have := lq 0 (by omega); omega), show k0 + ((k * 9 : Nat) : Int) = k0 + (k : Int) * 9 by omega] at r
      have r := r.set_ (k := k * 9 + 1) (by rw [markTo_len _ _ _ (by have := lq 1 (by omega); omega)]; exact lq 1 (by omega)) (k0 + (k : Int) * 9 + 1)
      rw [show k0 + (k : Int) * 9 + 1 = k0 + ((k * 9 + 1 : Nat) : Int) by omega, markTo_step k0 (k * 9 + 1) zs (by have := lq 1 (by omega); omega), show k0 + ((k * 9 + 1 : Nat) : Int) = k0 + (k : Int) * 9 + 1 by omega] at r
      have r := r.set_ (k := k * 9 + 2) (by rw [markTo_len _ _ _ (by have := lq 2 (by omega); omega)]; exact lq 2 (by omega)) (k0 + (k : Int) * 9 + 1 + 1)
      rw [show k0 + (k : Int) * 9 + 1 + 1 = k0 + ((k * 9 + 2 : Nat) : Int) by omega, markTo_step k0 (k * 9 + 2) zs (by have := lq 2 (by omega); omega), show k0 + ((k * 9 + 2 : Nat) : Int) = k0 + (k : Int) * 9 + 1 + 1 by omega] at r
      have r := r.set_ (k := k * 9 + 3) (by rw [markTo_len _ _ _ (by have := lq 3 (by omega); omega)]; exact lq 3 (by omega)) (k0 + (k : Int) * 9 + 1 + 1 + 1)
      rw [show k0 + (k : Int) * 9 + 1 + 1 + 1 = k0 + ((k * 9 + 3 : Nat) : Int) by omega, markTo_step k0 (k * 9 + 3) zs (by have := lq 3 (by omega); omega), show k0 + ((k * 9 + 3 : Nat) : Int) = k0 + (k : Int) * 9 + 1 + 1 + 1 by omega] at r
      have r := r.set_ (k := k * 9 + 4) (by rw [markTo_len _ _ _ (by have := lq 4 (by omega); omega)]; exact lq 4 (by omega)) (k0 + (k : Int) * 9 + 1 + 1 + 1 + 1)
      rw [show k0 + (k : Int) * 9 + 1 + 1 + 1 + 1 = k0 + ((k * 9 + 4 : Nat) : Int) by omega, markTo_step k0 (k * 9 + 4) zs (by have := lq 4 (by omega); omega), show k0 + ((k * 9 + 4 : Nat) : Int) = k0 + (k : Int) * 9 + 1 + 1 + 1 + 1 by omega] at r
      have r := r.set_ (k := k * 9 + 5) (by rw [markTo_len _ _ _ (by have := lq 5 (by omega); omega)]; exact lq 5 (by omega)) (k0 + (k : Int) * 9 + 1 + 1 + 1 + 1 + 1)
      rw [show k0 + (k : Int) * 9 + 1 + 1 + 1 + 1 + 1 = k0 + ((k * 9 + 5 : Nat) : Int) by omega, markTo_step k0 (k * 9 + 5) zs (by have := lq 5 (by omega); omega), show k0 + ((k * 9 + 5 : Nat) : Int) = k0 + (k : Int) * 9 + 1 + 1 + 1 + 1 + 1 by omega] at r
      have r := r.set_ (k := k * 9 + 6) (by rw [markTo_len _ _ _ (by have := lq 6 (by omega); omega)]; exact lq 6 (by omega)) (k0 + (k : Int) * 9 + 1 + 1 + 1 + 1 + 1 + 1)
      rw [show k0 + (k : Int) * 9 + 1 + 1 + 1 + 1 + 1 + 1 = k0 + ((k * 9 + 6 : Nat) : Int) by omega, markTo_step k0 (k * 9 + 6) zs (by have := lq 6 (by omega); omega), show k0 + ((k * 9 + 6 : Nat) : Int) = k0 + (k : Int) * 9 + 1 + 1 + 1 + 1 + 1 + 1 by omega] at r
      have r := r.set_ (k := k * 9 + 7) (by rw [markTo_len _ _ _ (by have := lq 7 (by omega); omega)]; exact lq 7 (by omega)) (k0 + (k : Int) * 9 + 1 + 1 + 1 + 1 + 1 + 1 + 1)
      rw [show k0 + (k : Int) * 9 + 1 + 1 + 1 + 1 + 1 + 1 + 1 = k0 + ((k * 9 + 7 : Nat) : Int) by omega, markTo_step k0 (k * 9 + 7) zs (by have := lq 7 (by omega); omega), show k0 + ((k * 9 + 7 : Nat) : Int) = k0 + (k : Int) * 9 + 1 + 1 + 1 + 1 + 1 + 1 + 1 by omega] at r
      have r := r.set_ (k := k * 9 + 8) (by rw [markTo_len _ _ _ (by have := lq 8 (by omega); omega)]; exact lq 8 (by omega)) (k0 + (k : Int) * 9 + 1 + 1 + 1 + 1 + 1 + 1 + 1 + 1)
      rw [show k0 + (k : Int) * 9 + 1 + 1 + 1 + 1 + 1 + 1 + 1 + 1 = k0 + ((k * 9 + 8 : Nat) : Int) by omega, markTo_step k0 (k * 9 + 8) zs (by have := lq 8 (by omega); omega), show k0 + ((k * 9 + 8 : Nat) : Int) = k0 + (k : Int) * 9 + 1 + 1 + 1 + 1 + 1 + 1 + 1 + 1 by omega] at r
      rw [show k * 9 + 8 + 1 = (k + 1) * 9 by omega] at r
      have HS := Lib.hid r
      clear lq r
      have e0 : (k : Int) ≤ 1048576 := by omega
      have i0 : (0 : Int) ≤ (k : Int) := by omega
      have i1 : (k : Int) < (n : Int) := by omega
      generalize (markTo k0 (k * 9) zs).getD (k * 9) 0 = z0 at o0
      generalize (markTo k0 (k * 9) zs).getD (k * 9 + 1) 0 = z1 at o1
      generalize (markTo k0 (k * 9) zs).getD (k * 9 + 2) 0 = z2 at o2
      generalize (markTo k0 (k * 9) zs).getD (k * 9 + 3) 0 = z3 at o3
      generalize (markTo k0 (k * 9) zs).getD (k * 9 + 4) 0 = z4 at o4
      generalize (markTo k0 (k * 9) zs).getD (k * 9 + 5) 0 = z5 at o5
      generalize (markTo k0 (k * 9) zs).getD (k * 9 + 6) 0 = z6 at o6
      generalize (markTo k0 (k * 9) zs).getD (k * 9 + 7) 0 = z7 at o7
      generalize (markTo k0 (k * 9) zs).getD (k * 9 + 8) 0 = z8 at o8
      go_wp2
      go_roundw
      case rel => exact ⟨k + 1, by omega, by go_num, by go_num, HS, Lib.hid (own_set (own_set (own_set (own_set (own_set (own_set (own_set (own_set (own_set (HG.out) _) _) _) _) _) _) _) _) _)⟩
      case measure => simp [intOf]; omega
    · have hk' : k = n := by omega
      subst hk'
      go_wp2
      go_ret
      exact ⟨ret_int (by omega), by have h := HR.out; rw [← HZ.out, markTo_all] at h; rw [← HZ.out]; exact h, HG.out⟩
theorem markBoxS_any (lo hi : Nat) (A : Option Addr) (n c : Nat) (zs : List Int) (k0 : Int) (h0 : 0 ≤ k0) (h1 : k0 ≤ 100000000) (hn : n ≤ 1048576) (hz : zs.length = n * 9) (w : World) (hx : Res lo hi w A zs) :
    Calls Tryz.prog 9 #[.slice A n c, .int .i64 k0] w fun e w' => e = .returned (.int .i64 (k0 + ((n * 9 : Nat) : Int))) ∧ Res lo hi w' A (marks k0 (n * 9)) ∧ Chg lo hi w w' := by
  rcases Nat.eq_zero_or_pos n with rfl | hp
  · refine (markBox_none A c k0 w).mono ?_
    rintro e w' ⟨rfl, rfl⟩
    exact ⟨by simp, ⟨hx.1, fun h => absurd h (by simp [marks])⟩, Chg.refl _ _ _⟩
  · obtain ⟨g, rfl, g1, g2, hR⟩ := hx.2 (by omega)
    refine (markBox_row g n c zs k0 h0 h1 hn hz w hR).mono ?_
    rintro e w' ⟨rfl, hR', hG⟩
    exact ⟨rfl, ⟨Nat.le_trans hx.1 hG.size, fun _ => ⟨g, rfl, g1, g2, hR'⟩⟩, Chg.of_grown hG g1 g2⟩
end Go.Proofs.YtffggmjhaaehlaaGreatDoor
