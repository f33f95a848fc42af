/- The helpers of the exact laws on slices of Task: copied, measured, compared and marked. Conditions: the slices can be read, or lie in a block of the call's own. -/
import Derived.Test.YtecnhjofgkhlnaaSts
namespace Go.Proofs.Ytecnhjofgkhlnaa
open Go.RowKit

set_option maxHeartbeats 400000 in
theorem toTask_any (x0 x1 x2 : Int) (w : World) :
    Calls Try.prog 40 #[.agg #[.int .i64 x0, .int .i64 x1, .int .i64 x2]] w fun e w' => e = .returned (.agg #[.int .i64 x0, .int .i64 x1, .int .i64 x2]) ∧ New w w' := by
  go_enter Try.func40, Try.ntmps40
  go_wp2
  go_returns
  exact ⟨rfl, by (repeat (first | exact New.refl _ | assumption | refine New.alloc ?_ _ | refine New.drew ?_ | refine New.drewN ?_ _ | refine New.setCell ?_ (by first | omega | (simp; omega) | (simp; done)) _ | refine New.trans ?_ (by assumption)))⟩
theorem mkTask (n : Nat) (hn : n ≤ 1048576) (W : World) : (Instr.makeSlice 25 (.int .i64 (n : Int)) (.int .i64 (n : Int))).run Try.prog W = .ok (.slice (some ⟨W.heap.size, 0, none⟩) n n) (W.alloc (.cells (madeCells #[Value.int .i64 0, Value.int .i64 0, Value.int .i64 0] (n * 3)) 43)) := by
  have hinfo : (Try.prog.info? 43).map (fun i => (i.zero, i.size, i.bytes)) = some (some (.agg #[Value.int .i64 0, Value.int .i64 0, Value.int .i64 0]), 3, 24) := by kernel_rfl
  obtain ⟨i, hi, hzz⟩ := Option.map_eq_some_iff.1 hinfo
  simp only [Prod.mk.injEq] at hzz
  obtain ⟨hz, hs, hb⟩ := hzz
  have h := run_make (P := Try.prog) W 25 43 i (.agg #[Value.int .i64 0, Value.int .i64 0, Value.int .i64 0]) Try.underlying25 hi hz .i64 .i64 (n : Int) (n : Int) (by omega) (by omega) (by rw [hb]; omega) (by omega)
  rw [hs] at h
  exact h
theorem zeroTask (i : Nat) : (#[Value.int .i64 0, Value.int .i64 0, Value.int .i64 0] : Array Value)[i % (#[Value.int .i64 0, Value.int .i64 0, Value.int .i64 0] : Array Value).size]! = .int .i64 0 := by
  have h : i % 3 < 3 := Nat.mod_lt _ (by omega)
  have hs : (#[Value.int .i64 0, Value.int .i64 0, Value.int .i64 0] : Array Value).size = 3 := rfl
  rw [hs]
  generalize i % 3 = j at h
  match j, h with
  | 0, _ => rfl
  | 1, _ => rfl
  | 2, _ => rfl
  | j + 3, h => omega
theorem rowTask_step {w2 : World} {g k n : Nat} {xs : List Int} (r : Row w2 g (upTo (k * 3) xs)) (hx : xs.length = n * 3) (hlt : k < n) : Row (((w2.setCell ⟨g, k * 3, none⟩ (.int .i64 (xs.getD (k * 3) 0))).setCell ⟨g, k * 3 + 1, none⟩ (.int .i64 (xs.getD (k * 3 + 1) 0))).setCell ⟨g, k * 3 + 2, none⟩ (.int .i64 (xs.getD (k * 3 + 2) 0))) g (upTo ((k + 1) * 3) xs) := by
  have lq : ∀ j, j < 3 → k * 3 + j < xs.length := fun j hj => by rw [hx]; exact idx_lt hlt hj
  have r := r.set_ (k := k * 3) (by rw [upTo_len _ _ (by have := lq 0 (by omega); omega)]; exact lq 0 (by omega)) (xs.getD (k * 3) 0)
  rw [upTo_step (k * 3) xs (by have := lq 0 (by omega); omega)] at r
  have r := r.set_ (k := k * 3 + 1) (by rw [upTo_len _ _ (by have := lq 1 (by omega); omega)]; exact lq 1 (by omega)) (xs.getD (k * 3 + 1) 0)
  rw [upTo_step (k * 3 + 1) xs (by have := lq 1 (by omega); omega)] at r
  have r := r.set_ (k := k * 3 + 2) (by rw [upTo_len _ _ (by have := lq 2 (by omega); omega)]; exact lq 2 (by omega)) (xs.getD (k * 3 + 2) 0)
  rw [upTo_step (k * 3 + 2) xs (by have := lq 2 (by omega); omega)] at r
  rw [Nat.add_mul, Nat.one_mul]
  exact r
set_option maxHeartbeats 2000000 in
theorem toTaskS_any (A : Option Addr) (n c : Nat) (xs : List Int) (hn : n ≤ 1048576) (w : World) (hx : Sts 3 w A n xs) :
    Calls Try.prog 17 #[.slice A n c] w (AnsS 3 w xs) := by
  have hmk := fun W => mkTask n hn W
  have lx := hx.len
  have LX := Lib.hid lx
  have HX := Lib.hid hx
  clear hx lx
  go_enter Try.func17, Try.ntmps17
  go_wp2
  have R0 := Row.zeros w #[Value.int .i64 0, Value.int .i64 0, Value.int .i64 0] (n * 3) 43 zeroTask
  have N0 : New w (w.alloc (.cells (madeCells #[Value.int .i64 0, Value.int .i64 0, Value.int .i64 0] (n * 3)) 43)) := by (repeat (first | exact New.refl _ | assumption | refine New.alloc ?_ _ | refine New.drew ?_ | refine New.drewN ?_ _ | refine New.setCell ?_ (by first | omega | (simp; omega) | (simp; done)) _ | refine New.trans ?_ (by assumption)))
  have R0 := Lib.hid R0; have N0 := Lib.hid N0
  clear hmk
  generalize hW : w.alloc (.cells (madeCells #[Value.int .i64 0, Value.int .i64 0, Value.int .i64 0] (n * 3)) 43) = W at R0 N0 ⊢
  clear hW
  go_loopw [4] (fun i wr => ∃ k : Nat, k ≤ n ∧ i = .int .i64 k ∧ Hid (Row wr w.heap.size (upTo (k * 3) xs)) ∧ Hid (New w wr)) (fun i _ => n - (intOf i).toNat)
  case atStart => exact ⟨0, Nat.zero_le _, rfl, Lib.hid (by rw [Nat.zero_mul, upTo_zero, LX.out]; exact R0.out), N0⟩
  case round =>
    obtain ⟨k, hk, rfl, HR, HN⟩ := hrel
    by_cases hlt : k < n
    · obtain ⟨b, off, rfl, hb, hc⟩ := HX.out.at_ (by omega)
      have LU := Lib.hid (upTo_len (k * 3) xs (by rw [LX.out]; exact Nat.mul_le_mul_right 3 hk))
      have g0 : wr.cell? ⟨b, off + k * 3, none⟩ = some (.int .i64 (xs.getD (k * 3) 0)) := (HN.out.cells b _ hb).trans (hc (k * 3) (by have := idx_lt (m := 3) (j := 0) hlt (by omega); omega))
      have g1 : wr.cell? ⟨b, off + k * 3 + 1, none⟩ = some (.int .i64 (xs.getD (k * 3 + 1) 0)) := (HN.out.cells b _ hb).trans (hc (k * 3 + 1) (by have := idx_lt (m := 3) (j := 1) hlt (by omega); omega))
      have g2 : wr.cell? ⟨b, off + k * 3 + 2, none⟩ = some (.int .i64 (xs.getD (k * 3 + 2) 0)) := (HN.out.cells b _ hb).trans (hc (k * 3 + 2) (by have := idx_lt (m := 3) (j := 2) hlt (by omega); omega))
      have q0 : k * 3 < (upTo (k * 3) xs).length := by rw [LU.out, LX.out]; have := idx_lt (m := 3) (j := 0) hlt (by omega); omega
      have q1 : k * 3 + 1 < (upTo (k * 3) xs).length := by rw [LU.out, LX.out]; have := idx_lt (m := 3) (j := 1) hlt (by omega); omega
      have q2 : k * 3 + 2 < (upTo (k * 3) xs).length := by rw [LU.out, LX.out]; have := idx_lt (m := 3) (j := 2) hlt (by omega); omega
      have tr := HR.out.lt
      have f0 := HR.out.f (k * 3) q0; have o0 := HR.out.c (k * 3) q0
      have f1 := HR.out.f (k * 3 + 1) q1; have o1 := HR.out.c (k * 3 + 1) q1
      have f2 := HR.out.f (k * 3 + 2) q2; have o2 := HR.out.c (k * 3 + 2) q2
      have HS := Lib.hid (fun (w2 : World) (h2 : New wr w2) => rowTask_step (HR.out.new h2) LX.out hlt)
      clear hc q0 q1 q2
      generalize xs.getD (k * 3) 0 = y0 at g0 HS
      generalize xs.getD (k * 3 + 1) 0 = y1 at g1 HS
      generalize xs.getD (k * 3 + 2) 0 = y2 at g2 HS
      generalize (upTo (k * 3) xs).getD (k * 3) 0 = z0 at o0
      generalize (upTo (k * 3) xs).getD (k * 3 + 1) 0 = z1 at o1
      generalize (upTo (k * 3) xs).getD (k * 3 + 2) 0 = z2 at o2
      have k0 : (0 : Int) ≤ (k : Int) := by omega
      have k1 : (k : Int) < (n : Int) := by omega
      go_wp2_with fail
      refine (toTask_any _ _ _ _).mono ?_
      rintro e w2 ⟨rfl, h2⟩
      have f0' := (h2.marks _ _ tr).trans f0; have o0' := (h2.cells _ _ tr).trans o0
      have f1' := (h2.marks _ _ tr).trans f1; have o1' := (h2.cells _ _ tr).trans o1
      have f2' := (h2.marks _ _ tr).trans f2; have o2' := (h2.cells _ _ tr).trans o2
      have T2 := Lib.hid (HS.out w2 h2); have N2 := Lib.hid (HN.out.trans h2)
      clear h2 f0 o0 g0 f1 o1 g1 f2 o2 g2
      go_wp2
      go_roundw
      case rel => exact ⟨k + 1, by omega, by go_num, T2, Lib.hid (New.setCell (New.setCell (New.setCell (N2.out) (Nat.le_refl _) _) (Nat.le_refl _) _) (Nat.le_refl _) _)⟩
      case measure => simp [intOf]; omega
    · have hk' : k = n := by omega
      subst hk'
      go_wp2
      go_ret
      refine AnsS.row rfl LX.out (Nat.le_refl _) ?_ HN.out
      have h := HR.out
      rw [← LX.out, upTo_all] at h
      exact h
set_option maxHeartbeats 400000 in
theorem szTask_ok (A : Option Addr) (n c : Nat) (l : Nat) (hl : l ≤ 1048576) (h : n ≤ l) (w : World) :
    Calls Try.prog 15 #[.slice A n c, .int .i64 l] w fun e w' => e = .returned (.int .i64 ((l : Int) - (n : Int))) ∧ w = w' := by
  have h1 : (n : Int) ≤ (l : Int) := by omega
  have h2 : (0 : Int) ≤ (n : Int) := by omega
  have h3 : (l : Int) ≤ 1048576 := by omega
  go_enter Try.func15, Try.ntmps15
  go_wp2
  go_ret
  exact ⟨rfl, rfl⟩
set_option maxHeartbeats 400000 in
theorem szTask_no (A : Option Addr) (n c : Nat) (l : Nat) (hn : n ≤ maxLen) (h : l < n) (w : World) :
    Calls Try.prog 15 #[.slice A n c, .int .i64 l] w fun e w' => e = .returned (.int .i64 (-1)) ∧ w = w' := by
  unfold maxLen at hn
  have h1 : (l : Int) < (n : Int) := by omega
  have h2 : (0 : Int) ≤ (l : Int) := by omega
  have h3 : (n : Int) ≤ 9223372036854775807 := by omega
  go_enter Try.func15, Try.ntmps15
  go_wp2
  go_ret
  exact ⟨rfl, rfl⟩
set_option maxHeartbeats 400000 in
theorem eqTask_same (x0 x1 x2 : Int) (w : World) :
    Calls Try.prog 43 #[.agg #[.int .i64 x0, .int .i64 x1, .int .i64 x2], .agg #[.int .i64 x0, .int .i64 x1, .int .i64 x2]] w fun e w' => e = .returned (.bool true) ∧ New w w' := by
  go_enter Try.func43, Try.ntmps43
  go_wp2
  go_ret
  exact ⟨rfl, by (repeat (first | exact New.refl _ | assumption | refine New.alloc ?_ _ | refine New.drew ?_ | refine New.drewN ?_ _ | refine New.setCell ?_ (by first | omega | (simp; omega) | (simp; done)) _ | refine New.trans ?_ (by assumption)))⟩
set_option maxRecDepth 100000 in
set_option maxHeartbeats 2000000 in
theorem eqTaskS_any (A B : Option Addr) (n n' c d : Nat) (xs : List Int) (hn : n ≤ 1048576) (hn' : n' ≤ 1048576) (w : World) (hx : Sts 3 w A n xs) (hy : Sts 3 w B n' xs) :
    Calls Try.prog 19 #[.slice A n c, .slice B n' d] w fun e w' => e = .returned (.bool true) ∧ New w w' := by
  have HX := Lib.hid hx; have HY := Lib.hid hy
  obtain rfl : n = n' := by have h1 := hx.len; have h2 := hy.len; omega
  clear hx hy hn'
  go_enter Try.func19, Try.ntmps19
  go_wp2
  go_loopw [5] (fun i wr => ∃ k : Nat, k ≤ n ∧ i = .int .i64 k ∧ Hid (New w wr)) (fun i _ => n - (intOf i).toNat)
  case atStart => exact ⟨0, Nat.zero_le _, rfl, Lib.hid (New.refl _)⟩
  case round =>
    obtain ⟨k, hk, rfl, HN⟩ := hrel
    by_cases hlt : k < n
    · obtain ⟨b, off, rfl, hb, hc⟩ := HX.out.at_ (by omega)
      obtain ⟨b', off', rfl, hb', hc'⟩ := HY.out.at_ (by omega)
      have g0 : wr.cell? ⟨b, off + k * 3, none⟩ = some (.int .i64 (xs.getD (k * 3) 0)) := (HN.out.cells b _ hb).trans (hc (k * 3) (by have := idx_lt (m := 3) (j := 0) hlt (by omega); omega)); have g0' : wr.cell? ⟨b', off' + k * 3, none⟩ = some (.int .i64 (xs.getD (k * 3) 0)) := (HN.out.cells b' _ hb').trans (hc' (k * 3) (by have := idx_lt (m := 3) (j := 0) hlt (by omega); omega))
      have g1 : wr.cell? ⟨b, off + k * 3 + 1, none⟩ = some (.int .i64 (xs.getD (k * 3 + 1) 0)) := (HN.out.cells b _ hb).trans (hc (k * 3 + 1) (by have := idx_lt (m := 3) (j := 1) hlt (by omega); omega)); have g1' : wr.cell? ⟨b', off' + k * 3 + 1, none⟩ = some (.int .i64 (xs.getD (k * 3 + 1) 0)) := (HN.out.cells b' _ hb').trans (hc' (k * 3 + 1) (by have := idx_lt (m := 3) (j := 1) hlt (by omega); omega))
      have g2 : wr.cell? ⟨b, off + k * 3 + 2, none⟩ = some (.int .i64 (xs.getD (k * 3 + 2) 0)) := (HN.out.cells b _ hb).trans (hc (k * 3 + 2) (by have := idx_lt (m := 3) (j := 2) hlt (by omega); omega)); have g2' : wr.cell? ⟨b', off' + k * 3 + 2, none⟩ = some (.int .i64 (xs.getD (k * 3 + 2) 0)) := (HN.out.cells b' _ hb').trans (hc' (k * 3 + 2) (by have := idx_lt (m := 3) (j := 2) hlt (by omega); omega))
      clear hc hc'
      generalize xs.getD (k * 3) 0 = y0 at g0 g0'
      generalize xs.getD (k * 3 + 1) 0 = y1 at g1 g1'
      generalize xs.getD (k * 3 + 2) 0 = y2 at g2 g2'
      have k0 : (0 : Int) ≤ (k : Int) := by omega
      have k1 : (k : Int) < (n : Int) := by omega
      go_wp2
      go_still_tail 8, (by kernel_rfl)
      change wpList _ _ _ _ _ wr.drew
      have HN1 := Lib.hid HN.out.drew
      generalize wr.drew = w1 at HN1 ⊢
      go_wp2_with fail
      refine (eqTask_same _ _ _ _).mono ?_
      rintro e w2 ⟨rfl, h2⟩
      have HN2 := Lib.hid (HN1.out.trans h2)
      clear h2
      go_wp2
      go_roundw
      case rel => exact ⟨k + 1, by omega, by go_num, HN2⟩
      case measure => simp [intOf]; omega
    · have hk' : k = n := by omega
      subst hk'
      go_wp2
      go_ret
      exact ⟨rfl, HN.out⟩
theorem markTask_none (A : Option Addr) (c : Nat) (k0 : Int) (w : World) : Calls Try.prog 22 #[.slice A 0 c, .int .i64 k0] w fun e w' => e = .returned (.int .i64 k0) ∧ w = w' := by
  go_enter Try.func22, Try.ntmps22
  go_wp2
  go_loopw [1, 5] (fun s i wr => s = .int .i64 k0 ∧ i = .int .i64 0 ∧ wr = w) (fun _ _ _ => 0)
  case atStart => exact ⟨rfl, rfl, rfl⟩
  case round =>
    obtain ⟨rfl, rfl, rfl⟩ := hrel
    go_wp2
    go_ret
    exact ⟨rfl, rfl⟩
set_option maxHeartbeats 2000000 in
theorem markTask_row (g n c : Nat) (zs : List Int) (k0 : Int) (h0 : 0 ≤ k0) (h1 : k0 ≤ 100000000) (hn : n ≤ 1048576) (hz : zs.length = n * 3) (w : World) (hx : Row w g zs) :
    Calls Try.prog 22 #[.slice (some ⟨g, 0, none⟩) n c, .int .i64 k0] w fun e w' => e = .returned (.int .i64 (k0 + ((n * 3 : Nat) : Int))) ∧ Row w' g (marks k0 (n * 3)) ∧ w.grownBy w' (some g) := by
  have HX := Lib.hid hx
  have HZ := Lib.hid hz
  clear hx hz
  go_enter Try.func22, Try.ntmps22
  go_wp2
  go_loopw [1, 5] (fun s i wr => ∃ k : Nat, k ≤ n ∧ i = .int .i64 k ∧ s = .int .i64 (k0 + (k : Int) * 3) ∧ Hid (Row wr g (markTo k0 (k * 3) zs)) ∧ Hid (w.grownBy wr (some g))) (fun _ i _ => n - (intOf i).toNat)
  case atStart => exact ⟨0, Nat.zero_le _, rfl, by simp, Lib.hid (by simpa [markTo, marks] using HX.out), Lib.hid (World.grownBy.refl _ _)⟩
  case round =>
    obtain ⟨k, hk, rfl, rfl, HR, HG⟩ := hrel
    by_cases hlt : k < n
    · have lq : ∀ j, j < 3 → k * 3 + j < zs.length := fun j hj => by rw [HZ.out]; exact idx_lt hlt hj
      have LM := Lib.hid (markTo_len k0 (k * 3) zs (by have := lq 0 (by omega); omega))
      have f0 := HR.out.f (k * 3) (by rw [LM.out]; exact lq 0 (by omega)); have o0 := HR.out.c (k * 3) (by rw [LM.out]; exact lq 0 (by omega))
      have f1 := HR.out.f (k * 3 + 1) (by rw [LM.out]; exact lq 1 (by omega)); have o1 := HR.out.c (k * 3 + 1) (by rw [LM.out]; exact lq 1 (by omega))
      have f2 := HR.out.f (k * 3 + 2) (by rw [LM.out]; exact lq 2 (by omega)); have o2 := HR.out.c (k * 3 + 2) (by rw [LM.out]; exact lq 2 (by omega))
      have r := HR.out
      have r := r.set_ (k := k * 3) (by rw [markTo_len _ _ _ (by have := lq 0 (by omega); omega)]; exact lq 0 (by omega)) (k0 + (k : Int) * 3)
      rw [show k0 + (k : Int) * 3 = k0 + ((k * 3 : Nat) : Int) by omega, markTo_step k0 (k * 3) zs (by have := lq 0 (by omega); omega), show k0 + ((k * 3 : Nat) : Int) = k0 + (k : Int) * 3 by omega] at r
      have r := r.set_ (k := k * 3 + 1) (by rw [markTo_len _ _ _ (by have := lq 1 (by omega); omega)]; exact lq 1 (by omega)) (k0 + (k : Int) * 3 + 1)
      rw [show k0 + (k : Int) * 3 + 1 = k0 + ((k * 3 + 1 : Nat) : Int) by omega, markTo_step k0 (k * 3 + 1) zs (by have := lq 1 (by omega); omega), show k0 + ((k * 3 + 1 : Nat) : Int) = k0 + (k : Int) * 3 + 1 by omega] at r
      have r := r.set_ (k := k * 3 + 2) (by rw [markTo_len _ _ _ (by have := lq 2 (by omega); omega)]; exact lq 2 (by omega)) (k0 + (k : Int) * 3 + 1 + 1)
      rw [show k0 + (k : Int) * 3 + 1 + 1 = k0 + ((k * 3 + 2 : Nat) : Int) by omega, markTo_step k0 (k * 3 + 2) zs (by have := lq 2 (by omega); omega), show k0 + ((k * 3 + 2 : Nat) : Int) = k0 + (k : Int) * 3 + 1 + 1 by omega] at r
      rw [show k * 3 + 2 + 1 = (k + 1) * 3 by omega] at r
      have HS := Lib.hid r
      clear lq r
      have e0 : (k : Int) ≤ 1048576 := by omega
      have i0 : (0 : Int) ≤ (k : Int) := by omega
      have i1 : (k : Int) < (n : Int) := by omega
      generalize (markTo k0 (k * 3) zs).getD (k * 3) 0 = z0 at o0
      generalize (markTo k0 (k * 3) zs).getD (k * 3 + 1) 0 = z1 at o1
      generalize (markTo k0 (k * 3) zs).getD (k * 3 + 2) 0 = z2 at o2
      go_wp2
      go_roundw
      case rel => exact ⟨k + 1, by omega, by go_num, by go_num, HS, Lib.hid (own_set (own_set (own_set (HG.out) _) _) _)⟩
      case measure => simp [intOf]; omega
    · have hk' : k = n := by omega
      subst hk'
      go_wp2
      go_ret
      exact ⟨ret_int (by omega), by have h := HR.out; rw [← HZ.out, markTo_all] at h; rw [← HZ.out]; exact h, HG.out⟩
theorem markTaskS_any (lo hi : Nat) (A : Option Addr) (n c : Nat) (zs : List Int) (k0 : Int) (h0 : 0 ≤ k0) (h1 : k0 ≤ 100000000) (hn : n ≤ 1048576) (hz : zs.length = n * 3) (w : World) (hx : Res lo hi w A zs) :
    Calls Try.prog 22 #[.slice A n c, .int .i64 k0] w fun e w' => e = .returned (.int .i64 (k0 + ((n * 3 : Nat) : Int))) ∧ Res lo hi w' A (marks k0 (n * 3)) ∧ Chg lo hi w w' := by
  rcases Nat.eq_zero_or_pos n with rfl | hp
  · refine (markTask_none A c k0 w).mono ?_
    rintro e w' ⟨rfl, rfl⟩
    exact ⟨by simp, ⟨hx.1, fun h => absurd h (by simp [marks])⟩, Chg.refl _ _ _⟩
  · obtain ⟨g, rfl, g1, g2, hR⟩ := hx.2 (by omega)
    refine (markTask_row g n c zs k0 h0 h1 hn hz w hR).mono ?_
    rintro e w' ⟨rfl, hR', hG⟩
    exact ⟨rfl, ⟨Nat.le_trans hx.1 hG.size, fun _ => ⟨g, rfl, g1, g2, hR'⟩⟩, Chg.of_grown hG g1 g2⟩
end Go.Proofs.Ytecnhjofgkhlnaa
