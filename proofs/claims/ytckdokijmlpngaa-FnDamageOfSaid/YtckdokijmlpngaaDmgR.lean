/- The least rectangle around all that differs: DamageOf of the program and of the reference, walked. Condition: the rows can be read. -/
import Derived.Test.YtckdokijmlpngaaChgR
import Derived.Test.YtckdokijmlpngaaDmgM
import Derived.Test.YtckdokijmlpngaaRectH
import Derived.Test.YtckdokijmlpngaaRectA
import Derived.Deep.RegionHeld3
namespace Go.Proofs.Ytckdokijmlpngaa
open Go.RowKit

theorem Row.four {w : World} {g : Nat} {a0 a1 a2 a3 : Int} (h : Row w g [a0, a1, a2, a3]) (b0 b1 b2 b3 : Int) : Row ((((w.setCell ⟨g, 0, none⟩ (.int .i64 b0)).setCell ⟨g, 1, none⟩ (.int .i64 b1)).setCell ⟨g, 2, none⟩ (.int .i64 b2)).setCell ⟨g, 3, none⟩ (.int .i64 b3)) g [b0, b1, b2, b3] := by
  have k := (((h.set_ (k := 0) (by simp) b0).set_ (k := 1) (by simp) b1).set_ (k := 2) (by simp) b2).set_ (k := 3) (by simp) b3
  simpa using k
set_option maxRecDepth 100000 in
set_option maxHeartbeats 4000000 in
theorem DamageOf_any (A B : Option Addr) (n c m d : Nat) (xs ys : List Int) (hn : n ≤ 1048576) (hm : m ≤ 1048576) (w : World) (hx : Sts 4 w A n xs) (hy : Sts 4 w B m ys) :
    Calls Try.prog 25 #[.slice A n c, .slice B m d] w fun e w' => e = .returned (.tuple #[.agg #[.int .i64 (dmQ n m xs ys).1, .int .i64 (dmQ n m xs ys).2.1, .int .i64 (dmQ n m xs ys).2.2.1, .int .i64 (dmQ n m xs ys).2.2.2], .bool (dmB n m xs ys)]) ∧ New w w' := by
  have N0 := Lib.hid (show New w (w.alloc (.cells #[.int .i64 0, .int .i64 0, .int .i64 0, .int .i64 0] 34)) by (repeat (first | exact New.refl _ | assumption | refine New.alloc ?_ _ | refine New.drew ?_ | refine New.drewN ?_ _ | refine New.setCell ?_ (by first | omega | (simp; omega) | (simp; done)) _ | refine New.trans ?_ (by assumption))))
  have R0 := Lib.hid (Row.oneRect w 0 0 0 0 34)
  have HX := Lib.hid (hx.new N0.out); have HY := Lib.hid (hy.new N0.out)
  clear hx hy
  by_cases hj : (chgA n m xs ys).length = 0
  · have E : Hid (dmB n m xs ys = false) := Lib.hid (by unfold dmB; rw [decide_eq_false (by omega), Bool.false_and])
    have E2 : Hid (dmQ n m xs ys = (0, 0, 0, 0)) := Lib.hid (by unfold dmQ; rw [if_neg (by rw [E.out]; simp)])
    have HJ := Lib.hid hj
    clear hj
    rw [E.out, E2.out]
    go_enter Try.func25, Try.ntmps25
    go_wp2_with fail
    refine (ChangedRects_ans A B n c m d xs ys hn hm _ HX.out HY.out).mono ?_
    rintro e w1 ⟨A1, j, c1, rfl, l1, _, N1⟩
    obtain rfl : j = 0 := l1.symm.trans HJ.out
    obtain ⟨q0, q1, q2, q3⟩ := (R0.out.new N1).allRect
    have F0 := (R0.out.new N1).f
    simp only [List.length_cons, List.length_nil] at F0
    have f0 := F0 0 (by omega); have f1 := F0 1 (by omega); have f2 := F0 2 (by omega); have f3 := F0 3 (by omega)
    have N1 := Lib.hid (N0.out.trans N1)
    clear F0 l1
    go_wp2
    refine bodyPost_ret (v := .tuple #[.agg #[.int .i64 0, .int .i64 0, .int .i64 0, .int .i64 0], .bool false]) (by simp [results, Try.results25, go_sem, q0, q1, q2, q3]) rfl ?_
    exact ⟨rfl, by { repeat (first | exact N1.out | refine New.setCell ?_ (by first | omega | (simp; omega) | (simp; done)) _) }⟩
  have hp : 0 < (chgA n m xs ys).length := by omega
  have EB : Hid (dmB n m xs ys = v4 (dmR n m xs ys)) := Lib.hid (by unfold dmB; rw [decide_eq_true hp, Bool.true_and])
  have AT := Lib.hid (fun k (h : k < (chgA n m xs ys).length) => chgA_at h)
  have WD := Lib.hid (fun k (h : k ≤ (chgA n m xs ys).length) => dmTo_wide (n := n) (m := m) (xs := xs) (ys := ys) (k := k) hp h)
  have hj16 := chgA_len n m xs ys
  have EQ := Lib.hid (show dmQ n m xs ys = if v4 (dmTo xs ys (chgA n m xs ys) (chgA n m xs ys).length) then dmTo xs ys (chgA n m xs ys) (chgA n m xs ys).length else (0, 0, 0, 0) by unfold dmQ; rw [EB.out]; rfl)
  have EB2 := Lib.hid (show dmB n m xs ys = v4 (dmTo xs ys (chgA n m xs ys) (chgA n m xs ys).length) from EB.out)
  clear EB hj
  go_enter Try.func25, Try.ntmps25
  go_wp2_with fail
  refine (ChangedRects_ans A B n c m d xs ys hn hm _ HX.out HY.out).mono ?_
  generalize chgA n m xs ys = js at *
  rintro e w2 ⟨A1, j, c1, rfl, l1, r1, N1⟩
  subst l1
  have HJ := Lib.hid (r1.ints rfl)
  have HX := Lib.hid (HX.out.new N1); have HY := Lib.hid (HY.out.new N1)
  have RR := Lib.hid (R0.out.new N1)
  have z2 := (R0.out.new N1).lt
  have N2 := Lib.hid (N0.out.trans N1)
  clear r1 N1 R0 N0
  have j16 : (js.length : Int) ≤ 16 := by omega
  have jp : (0 : Int) < (js.length : Int) := by omega
  have jne : ((js.length : Int) == 0) = false := by rw [beq_eq_false_iff_ne]; omega
  obtain ⟨i0, e0, i0n, i0m, v0, -, -⟩ := AT.out 0 hp
  have i0i : (0 : Int) ≤ (i0 : Int) := by omega
  have i0j : (i0 : Int) < (n : Int) := by omega
  obtain ⟨bj, offj, rfl, hbj, hcj⟩ := HJ.out.at_ hp
  have cj := hcj 0 hp
  rw [e0] at cj
  simp only [Nat.add_zero] at cj
  clear hcj
  obtain ⟨b, off, rfl, hb, hc⟩ := HX.out.at_ (by omega)
  have g0 : w2.cell? ⟨b, off + i0 * 4, none⟩ = some (.int .i64 (xs.getD (i0 * 4) 0)) := hc (i0 * 4) (by have := idx_lt (m := 4) (j := 0) i0n (by omega); omega)
  have g1 : w2.cell? ⟨b, off + i0 * 4 + 1, none⟩ = some (.int .i64 (xs.getD (i0 * 4 + 1) 0)) := hc (i0 * 4 + 1) (by have := idx_lt (m := 4) (j := 1) i0n (by omega); omega)
  have g2 : w2.cell? ⟨b, off + i0 * 4 + 2, none⟩ = some (.int .i64 (xs.getD (i0 * 4 + 2) 0)) := hc (i0 * 4 + 2) (by have := idx_lt (m := 4) (j := 2) i0n (by omega); omega)
  have g3 : w2.cell? ⟨b, off + i0 * 4 + 3, none⟩ = some (.int .i64 (xs.getD (i0 * 4 + 3) 0)) := hc (i0 * 4 + 3) (by have := idx_lt (m := 4) (j := 3) i0n (by omega); omega)
  clear hc
  have D0 := Lib.hid (show dmTo xs ys js 0 = (xs.getD (i0 * 4) 0, xs.getD (i0 * 4 + 1) 0, xs.getD (i0 * 4 + 2) 0, xs.getD (i0 * 4 + 3) 0) by rw [dmTo_zero, e0]; rfl)
  clear e0 v0
  generalize xs.getD (i0 * 4) 0 = x0 at g0 D0
  generalize xs.getD (i0 * 4 + 1) 0 = x1 at g1 D0
  generalize xs.getD (i0 * 4 + 2) 0 = x2 at g2 D0
  generalize xs.getD (i0 * 4 + 3) 0 = x3 at g3 D0
  go_wp2
  have RD := Lib.hid (Row.oneRect w2 x0 x1 x2 x3 34)
  have ND := Lib.hid (show New w2 (w2.alloc (.cells #[.int .i64 x0, .int .i64 x1, .int .i64 x2, .int .i64 x3] 34)) by (repeat (first | exact New.refl _ | assumption | refine New.alloc ?_ _ | refine New.drew ?_ | refine New.drewN ?_ _ | refine New.setCell ?_ (by first | omega | (simp; omega) | (simp; done)) _ | refine New.trans ?_ (by assumption))))
  generalize w2.alloc (.cells #[.int .i64 x0, .int .i64 x1, .int .i64 x2, .int .i64 x3] 34) = w3 at RD ND ⊢
  go_loopw [25] (fun i wr => ∃ k : Nat, k ≤ js.length ∧ i = .int .i64 (k : Int) ∧ Hid (Row wr w2.heap.size (l4 (dmTo xs ys js k))) ∧ Hid (New w2 wr)) (fun i _ => js.length - (intOf i).toNat)
  case atStart => exact ⟨0, Nat.zero_le _, rfl, Lib.hid (by rw [D0.out]; exact RD.out), ND⟩
  case round =>
    clear RD ND D0 g0 g1 g2 g3 cj
    obtain ⟨k, hk, rfl, HR, HN⟩ := hrel
    have zr : w2.heap.size < wr.heap.size := HR.out.lt
    have HW := Lib.hid (WD.out k hk)
    have HS := Lib.hid (dmTo_step xs ys js k)
    obtain ⟨p0, p1, p2, p3⟩ := Row.allRect HR.out
    have F0 := HR.out.f
    simp only [l4, List.length_cons, List.length_nil] at F0
    have f0 := F0 0 (by omega); have f1 := F0 1 (by omega); have f2 := F0 2 (by omega); have f3 := F0 3 (by omega)
    clear F0
    by_cases hlt : k < js.length
    · have k0 : (0 : Int) ≤ (k : Int) := by omega
      have k1 : (k : Int) < (js.length : Int) := by omega
      obtain ⟨i, ei, hin, him, va, vb, -⟩ := AT.out k hlt
      have ii0 : (0 : Int) ≤ (i : Int) := by omega
      have ii1 : (i : Int) < (n : Int) := by omega
      have ii2 : (i : Int) < (m : Int) := by omega
      have WA := Lib.hid (w4_rg va); have WB := Lib.hid (w4_rg vb)
      rw [ei] at HS
      clear va vb
      obtain ⟨b', off', rfl, hb', hc'⟩ := HY.out.at_ (by omega)
      have hcx : ∀ f, f < 4 → w2.cell? ⟨b, off + (i * 4 + f), none⟩ = some (.int .i64 (xs.getD (i * 4 + f) 0)) := fun f hf => by
        obtain ⟨b0, o0, e, _, h⟩ := HX.out.at_ (by omega)
        simp only [Option.some.injEq, Addr.mk.injEq, and_true] at e
        obtain ⟨rfl, rfl⟩ := e
        exact h _ (idx_lt hin hf)
      have cj : w2.cell? ⟨bj, offj + k, none⟩ = some (.int .i64 (i : Int)) := by
        have h := HJ.out.cell_ hlt
        rw [ei] at h
        exact h
      have KF := Lib.hid (fun W (hW : New w2 W) => (show W.cell? ⟨bj, offj + k, none⟩ = some (.int .i64 (i : Int)) ∧ (W.cell? ⟨b, off + i * 4, none⟩ = some (.int .i64 (xs.getD (i * 4) 0)) ∧ W.cell? ⟨b, off + i * 4 + 1, none⟩ = some (.int .i64 (xs.getD (i * 4 + 1) 0)) ∧ W.cell? ⟨b, off + i * 4 + 2, none⟩ = some (.int .i64 (xs.getD (i * 4 + 2) 0)) ∧ W.cell? ⟨b, off + i * 4 + 3, none⟩ = some (.int .i64 (xs.getD (i * 4 + 3) 0))) ∧ (W.cell? ⟨b', off' + i * 4, none⟩ = some (.int .i64 (ys.getD (i * 4) 0)) ∧ W.cell? ⟨b', off' + i * 4 + 1, none⟩ = some (.int .i64 (ys.getD (i * 4 + 1) 0)) ∧ W.cell? ⟨b', off' + i * 4 + 2, none⟩ = some (.int .i64 (ys.getD (i * 4 + 2) 0)) ∧ W.cell? ⟨b', off' + i * 4 + 3, none⟩ = some (.int .i64 (ys.getD (i * 4 + 3) 0))) from
        ⟨(hW.cells bj _ hbj).trans cj, ⟨(hW.cells b _ hb).trans (hcx 0 (by omega)), (hW.cells b _ hb).trans (hcx 1 (by omega)), (hW.cells b _ hb).trans (hcx 2 (by omega)), (hW.cells b _ hb).trans (hcx 3 (by omega))⟩, (hW.cells b' _ hb').trans (hc' (i * 4) (by have := idx_lt (m := 4) (j := 0) him (by omega); omega)), (hW.cells b' _ hb').trans (hc' (i * 4 + 1) (by have := idx_lt (m := 4) (j := 1) him (by omega); omega)), (hW.cells b' _ hb').trans (hc' (i * 4 + 2) (by have := idx_lt (m := 4) (j := 2) him (by omega); omega)), (hW.cells b' _ hb').trans (hc' (i * 4 + 3) (by have := idx_lt (m := 4) (j := 3) him (by omega); omega))⟩))
      clear hcx hc' cj ei
      obtain ⟨cj, ⟨g0, g1, g2, g3⟩, o0, o1, o2, o3⟩ := KF.out wr HN.out
      unfold rg at WA WB
      rw [show rg xs ((i : Int)).toNat = (xs.getD (i * 4) 0, xs.getD (i * 4 + 1) 0, xs.getD (i * 4 + 2) 0, xs.getD (i * 4 + 3) 0) from rfl, show rg ys ((i : Int)).toNat = (ys.getD (i * 4) 0, ys.getD (i * 4 + 1) 0, ys.getD (i * 4 + 2) 0, ys.getD (i * 4 + 3) 0) from rfl] at HS
      generalize xs.getD (i * 4) 0 = y0 at *
      generalize xs.getD (i * 4 + 1) 0 = y1 at *
      generalize xs.getD (i * 4 + 2) 0 = y2 at *
      generalize xs.getD (i * 4 + 3) 0 = y3 at *
      generalize ys.getD (i * 4) 0 = z0 at *
      generalize ys.getD (i * 4 + 1) 0 = z1 at *
      generalize ys.getD (i * 4 + 2) 0 = z2 at *
      generalize ys.getD (i * 4 + 3) 0 = z3 at *
      generalize dmTo xs ys js k = D at *
      obtain ⟨d0, d1, d2, d3⟩ := D
      unfold w4 at HW WA WB
      dsimp only at p0 p1 p2 p3 HW WA WB
      go_wp2
      have NW := Lib.hid HN.out.drew
      have KK := KF.out _ NW.out
      have RW := Lib.hid (HR.out.new (New.refl wr).drew)
      obtain ⟨kj, ⟨kg0, kg1, kg2, kg3⟩, ko0, ko1, ko2, ko3⟩ := KK
      clear g0 g1 g2 g3 o0 o1 o2 o3 cj
      refine wp_region_noPanic ?_
      refine wp_region_held_drew (S := fun w' => w'.cell? ⟨bj, offj + k, none⟩ = some (.int .i64 (i : Int)) ∧ (w'.cell? ⟨b, off + i * 4, none⟩ = some (.int .i64 y0) ∧ w'.cell? ⟨b, off + i * 4 + 1, none⟩ = some (.int .i64 y1) ∧ w'.cell? ⟨b, off + i * 4 + 2, none⟩ = some (.int .i64 y2) ∧ w'.cell? ⟨b, off + i * 4 + 3, none⟩ = some (.int .i64 y3)) ∧ (w'.cell? ⟨b', off' + i * 4, none⟩ = some (.int .i64 z0) ∧ w'.cell? ⟨b', off' + i * 4 + 1, none⟩ = some (.int .i64 z1) ∧ w'.cell? ⟨b', off' + i * 4 + 2, none⟩ = some (.int .i64 z2) ∧ w'.cell? ⟨b', off' + i * 4 + 3, none⟩ = some (.int .i64 z3))) (by kernel_rfl) ?_ (fun hHeld => ?_)
      · (first | exact KF.out _ (by assumption) | exact KF.out _ NW.out | exact KF.out _ (by { repeat (first | exact NW.out | refine New.setCell ?_ (by first | omega | (simp; omega) | (simp; done)) _) }))
      refine wpAnyH_take (i := 1) (oi := _) (v := ?_) rfl (by kernel_rfl) (by kernel_rfl) (by kernel_rfl) (fun _ _ _ h => h) (Or.inl ⟨by rfl, ?_⟩) (by assumption) ?_
      rotate_left; (intro w' hSw; (try dsimp only at hSw); go_split_ands; go_simp; (try with_reducible rfl))
      try simp only [Act.put, List.setIfInBounds_toArray]
      refine wpAnyH_take (i := 2) (oi := _) (v := ?_) rfl (by kernel_rfl) (by kernel_rfl) (by kernel_rfl) (fun _ _ _ h => h) (Or.inl ⟨by rfl, ?_⟩) (by assumption) ?_
      rotate_left; (intro w' hSw; (try dsimp only at hSw); go_split_ands; go_simp; (try with_reducible rfl))
      try simp only [Act.put]
      refine wpAnyH_take (i := 3) (oi := _) (v := ?_) rfl (by kernel_rfl) (by kernel_rfl) (by kernel_rfl) (fun _ _ _ h => h) (Or.inl ⟨by rfl, ?_⟩) (by assumption) ?_
      rotate_left; (intro w' hSw; (try dsimp only at hSw); go_split_ands; go_simp; (try with_reducible rfl))
      try simp only [Act.put]
      refine wpAnyH_take (i := 4) (oi := _) (v := ?_) rfl (by kernel_rfl) (by kernel_rfl) (by kernel_rfl) (fun _ _ _ h => h) (Or.inl ⟨by rfl, ?_⟩) (by assumption) ?_
      rotate_left; (intro w' hSw; (try dsimp only at hSw); go_split_ands; go_simp; (try with_reducible rfl))
      try simp only [Act.put]
      refine wpAnyH_take (i := 6) (oi := _) (v := ?_) rfl (by kernel_rfl) (by kernel_rfl) (by kernel_rfl) (fun _ _ _ h => h) (Or.inl ⟨by rfl, ?_⟩) (by assumption) ?_
      rotate_left; (intro w' hSw; (try dsimp only at hSw); go_split_ands; go_simp; (try with_reducible rfl))
      try simp only [Act.put]
      refine wpAnyH_take (i := 7) (oi := _) (v := ?_) rfl (by kernel_rfl) (by kernel_rfl) (by kernel_rfl) (fun _ _ _ h => h) (Or.inl ⟨by rfl, ?_⟩) (by assumption) ?_
      rotate_left; (intro w' hSw; (try dsimp only at hSw); go_split_ands; go_simp; (try with_reducible rfl))
      try simp only [Act.put]
      refine wpAnyH_take (i := 8) (oi := _) (v := ?_) rfl (by kernel_rfl) (by kernel_rfl) (by kernel_rfl) (fun _ _ _ h => h) (Or.inl ⟨by rfl, ?_⟩) (by assumption) ?_
      rotate_left; (intro w' hSw; (try dsimp only at hSw); go_split_ands; go_simp; (try with_reducible rfl))
      try simp only [Act.put]
      refine wpAnyH_take (i := 9) (oi := _) (v := ?_) rfl (by kernel_rfl) (by kernel_rfl) (by kernel_rfl) (fun _ _ _ h => h) (Or.inl ⟨by rfl, ?_⟩) (by assumption) ?_
      rotate_left; (intro w' hSw; (try dsimp only at hSw); go_split_ands; go_simp; (try with_reducible rfl))
      try simp only [Act.put]
      refine wpAnyH_ready (rs := [0]) (by kernel_rfl) (by simp) ?_
      refine AllReadyH.cons (o := _) rfl (fun K hK => ?_) AllReadyH.nil
      go_simp
      refine hK.out _ _ ?_ (fun hH0 => ?_)
      · (first | exact KF.out _ (by assumption) | exact KF.out _ NW.out | exact KF.out _ (by { repeat (first | exact NW.out | refine New.setCell ?_ (by first | omega | (simp; omega) | (simp; done)) _) }))
      clear hK K
      try simp only [Act.put, List.setIfInBounds_toArray, List.set_cons_zero, List.set_cons_succ]
      refine wpAnyH_ready (rs := [5]) (by kernel_rfl) (by simp) ?_
      refine AllReadyH.cons (o := _) rfl (fun K hK => ?_) AllReadyH.nil
      go_simp
      (first | (go_at_call 46; refine (hullW_any _ _ _ _ _ _ _ _ _ HW.out WA.out).mono ?_; rintro e w4_ ⟨rfl, h4⟩; (have H1 := Lib.hid (wR_hull HW.out WA.out)); clear HW WA; (have p0 := (h4.cells _ 0 (by first | omega | (simp; omega) | (simp; done))).trans p0); (have f0 := (h4.marks _ 0 (by first | omega | (simp; omega) | (simp; done))).trans f0); (have p1 := (h4.cells _ 1 (by first | omega | (simp; omega) | (simp; done))).trans p1); (have f1 := (h4.marks _ 1 (by first | omega | (simp; omega) | (simp; done))).trans f1); (have p2 := (h4.cells _ 2 (by first | omega | (simp; omega) | (simp; done))).trans p2); (have f2 := (h4.marks _ 2 (by first | omega | (simp; omega) | (simp; done))).trans f2); (have p3 := (h4.cells _ 3 (by first | omega | (simp; omega) | (simp; done))).trans p3); (have f3 := (h4.marks _ 3 (by first | omega | (simp; omega) | (simp; done))).trans f3); (have RW := Lib.hid (RW.out.new h4)); (have zr := Nat.lt_of_lt_of_le zr h4.le); (replace NW := Lib.hid (NW.out.trans h4)); clear h4) | (go_at_call 46; refine (hullW_any _ _ _ _ _ _ _ _ _ H1.out WB.out).mono ?_; rintro e w5_ ⟨rfl, h5⟩; clear H1 WB; (have p0 := (h5.cells _ 0 (by first | omega | (simp; omega) | (simp; done))).trans p0); (have f0 := (h5.marks _ 0 (by first | omega | (simp; omega) | (simp; done))).trans f0); (have p1 := (h5.cells _ 1 (by first | omega | (simp; omega) | (simp; done))).trans p1); (have f1 := (h5.marks _ 1 (by first | omega | (simp; omega) | (simp; done))).trans f1); (have p2 := (h5.cells _ 2 (by first | omega | (simp; omega) | (simp; done))).trans p2); (have f2 := (h5.marks _ 2 (by first | omega | (simp; omega) | (simp; done))).trans f2); (have p3 := (h5.cells _ 3 (by first | omega | (simp; omega) | (simp; done))).trans p3); (have f3 := (h5.marks _ 3 (by first | omega | (simp; omega) | (simp; done))).trans f3); (have RW := Lib.hid (RW.out.new h5)); (have zr := Nat.lt_of_lt_of_le zr h5.le); (replace NW := Lib.hid (NW.out.trans h5)); clear h5))
      go_wp2_with fail
      refine hK.out _ _ ?_ (fun hH5 => ?_)
      · (first | exact KF.out _ (by assumption) | exact KF.out _ NW.out | exact KF.out _ (by { repeat (first | exact NW.out | refine New.setCell ?_ (by first | omega | (simp; omega) | (simp; done)) _) }))
      clear hK K
      try simp only [Act.put, List.setIfInBounds_toArray, List.set_cons_zero, List.set_cons_succ]
      refine wpAnyH_ready (rs := [10]) (by kernel_rfl) (by simp) ?_
      refine AllReadyH.cons (o := _) rfl (fun K hK => ?_) AllReadyH.nil
      go_simp
      (first | (go_at_call 46; refine (hullW_any _ _ _ _ _ _ _ _ _ HW.out WA.out).mono ?_; rintro e w4_ ⟨rfl, h4⟩; (have H1 := Lib.hid (wR_hull HW.out WA.out)); clear HW WA; (have p0 := (h4.cells _ 0 (by first | omega | (simp; omega) | (simp; done))).trans p0); (have f0 := (h4.marks _ 0 (by first | omega | (simp; omega) | (simp; done))).trans f0); (have p1 := (h4.cells _ 1 (by first | omega | (simp; omega) | (simp; done))).trans p1); (have f1 := (h4.marks _ 1 (by first | omega | (simp; omega) | (simp; done))).trans f1); (have p2 := (h4.cells _ 2 (by first | omega | (simp; omega) | (simp; done))).trans p2); (have f2 := (h4.marks _ 2 (by first | omega | (simp; omega) | (simp; done))).trans f2); (have p3 := (h4.cells _ 3 (by first | omega | (simp; omega) | (simp; done))).trans p3); (have f3 := (h4.marks _ 3 (by first | omega | (simp; omega) | (simp; done))).trans f3); (have RW := Lib.hid (RW.out.new h4)); (have zr := Nat.lt_of_lt_of_le zr h4.le); (replace NW := Lib.hid (NW.out.trans h4)); clear h4) | (go_at_call 46; refine (hullW_any _ _ _ _ _ _ _ _ _ H1.out WB.out).mono ?_; rintro e w5_ ⟨rfl, h5⟩; clear H1 WB; (have p0 := (h5.cells _ 0 (by first | omega | (simp; omega) | (simp; done))).trans p0); (have f0 := (h5.marks _ 0 (by first | omega | (simp; omega) | (simp; done))).trans f0); (have p1 := (h5.cells _ 1 (by first | omega | (simp; omega) | (simp; done))).trans p1); (have f1 := (h5.marks _ 1 (by first | omega | (simp; omega) | (simp; done))).trans f1); (have p2 := (h5.cells _ 2 (by first | omega | (simp; omega) | (simp; done))).trans p2); (have f2 := (h5.marks _ 2 (by first | omega | (simp; omega) | (simp; done))).trans f2); (have p3 := (h5.cells _ 3 (by first | omega | (simp; omega) | (simp; done))).trans p3); (have f3 := (h5.marks _ 3 (by first | omega | (simp; omega) | (simp; done))).trans f3); (have RW := Lib.hid (RW.out.new h5)); (have zr := Nat.lt_of_lt_of_le zr h5.le); (replace NW := Lib.hid (NW.out.trans h5)); clear h5))
      go_wp2_with fail
      refine hK.out _ _ ?_ (fun hH10 => ?_)
      · (first | exact KF.out _ (by assumption) | exact KF.out _ NW.out | exact KF.out _ (by { repeat (first | exact NW.out | refine New.setCell ?_ (by first | omega | (simp; omega) | (simp; done)) _) }))
      clear hK K
      try simp only [Act.put, List.setIfInBounds_toArray, List.set_cons_zero, List.set_cons_succ]
      refine wpAnyH_ready (rs := [11]) (by kernel_rfl) (by simp) ?_
      refine AllReadyH.cons (o := _) rfl (fun K hK => ?_) AllReadyH.nil
      go_simp
      refine hK.out _ _ ?_ (fun hH11 => ?_)
      · (first | exact KF.out _ (by assumption) | exact KF.out _ NW.out | exact KF.out _ (by { repeat (first | exact NW.out | refine New.setCell ?_ (by first | omega | (simp; omega) | (simp; done)) _) }))
      clear hK K
      try simp only [Act.put, List.setIfInBounds_toArray, List.set_cons_zero, List.set_cons_succ]
      refine wpAnyH_done (by kernel_rfl) ?_ _
      refine NoPanic.normal ?_
      go_wp2
      go_roundw
      case rel => exact ⟨k + 1, by omega, by go_num, by rw [HS.out]; exact Lib.hid (Row.four RW.out _ _ _ _), Lib.hid ((((NW.out.setCell (Nat.le_refl _) _).setCell (Nat.le_refl _) _).setCell (Nat.le_refl _) _).setCell (Nat.le_refl _) _)⟩
      case measure => simp [intOf]; omega
    · obtain rfl : js.length = k := by omega
      have NF := Lib.hid (N2.out.trans HN.out)
      have RQ := Lib.hid (RR.out.new HN.out)
      obtain ⟨q0, q1, q2, q3⟩ := Row.allRect RQ.out
      have F1 := RQ.out.f
      simp only [List.length_cons, List.length_nil] at F1
      have e0 := F1 0 (by omega); have e1 := F1 1 (by omega); have e2 := F1 2 (by omega); have e3 := F1 3 (by omega)
      clear F1 HS
      have zq : w.heap.size < wr.heap.size := RQ.out.lt
      generalize dmTo xs ys js js.length = D at *
      obtain ⟨d0, d1, d2, d3⟩ := D
      dsimp only at p0 p1 p2 p3
      cases hv : vR d0 d1 d2 d3
      · rw [show v4 (d0, d1, d2, d3) = false from hv] at EQ EB2
        simp only [Bool.false_eq_true, if_false] at EQ
        have hv := Lib.hid hv
        go_wp2_with (go_at_call 47; refine (ifValid_no _ _ _ _ _ hv.out).mono ?_; rintro e w6 ⟨rfl, h6⟩; (have q0 := (h6.cells _ 0 zq).trans q0); (have q1 := (h6.cells _ 1 zq).trans q1); (have q2 := (h6.cells _ 2 zq).trans q2); (have q3 := (h6.cells _ 3 zq).trans q3); (have e0 := (h6.marks _ 0 zq).trans e0); (have e1 := (h6.marks _ 1 zq).trans e1); (have e2 := (h6.marks _ 2 zq).trans e2); (have e3 := (h6.marks _ 3 zq).trans e3); (have NF := Lib.hid (NF.out.trans h6)); clear h6)
        refine bodyPost_ret (v := .tuple #[.agg #[.int .i64 0, .int .i64 0, .int .i64 0, .int .i64 0], .bool false]) (by simp [results, Try.results25, go_sem, q0, q1, q2, q3]) rfl ?_
        exact ⟨by rw [EQ.out, EB2.out], by { repeat (first | exact NF.out | refine New.setCell ?_ (by first | omega | (simp; omega) | (simp; done)) _) }⟩
      · rw [show v4 (d0, d1, d2, d3) = true from hv] at EQ EB2
        simp only [if_true] at EQ
        have hv := Lib.hid hv
        go_wp2_with (go_at_call 47; refine (ifValid_yes _ _ _ _ _ hv.out).mono ?_; rintro e w6 ⟨rfl, h6⟩; (have q0 := (h6.cells _ 0 zq).trans q0); (have q1 := (h6.cells _ 1 zq).trans q1); (have q2 := (h6.cells _ 2 zq).trans q2); (have q3 := (h6.cells _ 3 zq).trans q3); (have e0 := (h6.marks _ 0 zq).trans e0); (have e1 := (h6.marks _ 1 zq).trans e1); (have e2 := (h6.marks _ 2 zq).trans e2); (have e3 := (h6.marks _ 3 zq).trans e3); (have NF := Lib.hid (NF.out.trans h6)); clear h6)
        refine bodyPost_ret (v := .tuple #[.agg #[.int .i64 d0, .int .i64 d1, .int .i64 d2, .int .i64 d3], .bool true]) (by simp [results, Try.results25, go_sem, q0, q1, q2, q3]) rfl ?_
        exact ⟨by rw [EQ.out, EB2.out], by { repeat (first | exact NF.out | refine New.setCell ?_ (by first | omega | (simp; omega) | (simp; done)) _) }⟩
set_option maxRecDepth 100000 in
set_option maxHeartbeats 4000000 in
theorem SDamageOf_any (A B : Option Addr) (n c m d : Nat) (xs ys : List Int) (hn : n ≤ 1048576) (hm : m ≤ 1048576) (w : World) (hx : Sts 4 w A n xs) (hy : Sts 4 w B m ys) :
    Calls Try.prog 24 #[.slice A n c, .slice B m d] w fun e w' => e = .returned (.tuple #[.agg #[.int .i64 (dmQ n m xs ys).1, .int .i64 (dmQ n m xs ys).2.1, .int .i64 (dmQ n m xs ys).2.2.1, .int .i64 (dmQ n m xs ys).2.2.2], .bool (dmB n m xs ys)]) ∧ New w w' := by
  have N0 := Lib.hid (show New w (w.alloc (.cells #[.int .i64 0, .int .i64 0, .int .i64 0, .int .i64 0] 34)) by (repeat (first | exact New.refl _ | assumption | refine New.alloc ?_ _ | refine New.drew ?_ | refine New.drewN ?_ _ | refine New.setCell ?_ (by first | omega | (simp; omega) | (simp; done)) _ | refine New.trans ?_ (by assumption))))
  have R0 := Lib.hid (Row.oneRect w 0 0 0 0 34)
  have HX := Lib.hid (hx.new N0.out); have HY := Lib.hid (hy.new N0.out)
  clear hx hy
  by_cases hj : (chgA n m xs ys).length = 0
  · have E : Hid (dmB n m xs ys = false) := Lib.hid (by unfold dmB; rw [decide_eq_false (by omega), Bool.false_and])
    have E2 : Hid (dmQ n m xs ys = (0, 0, 0, 0)) := Lib.hid (by unfold dmQ; rw [if_neg (by rw [E.out]; simp)])
    have HJ := Lib.hid hj
    clear hj
    rw [E.out, E2.out]
    go_enter Try.func24, Try.ntmps24
    go_wp2_with fail
    refine (SChangedRects_ans A B n c m d xs ys hn hm _ HX.out HY.out).mono ?_
    rintro e w1 ⟨A1, j, c1, rfl, l1, _, N1⟩
    obtain rfl : j = 0 := l1.symm.trans HJ.out
    obtain ⟨q0, q1, q2, q3⟩ := (R0.out.new N1).allRect
    have F0 := (R0.out.new N1).f
    simp only [List.length_cons, List.length_nil] at F0
    have f0 := F0 0 (by omega); have f1 := F0 1 (by omega); have f2 := F0 2 (by omega); have f3 := F0 3 (by omega)
    have N1 := Lib.hid (N0.out.trans N1)
    clear F0 l1
    go_wp2
    refine bodyPost_ret (v := .tuple #[.agg #[.int .i64 0, .int .i64 0, .int .i64 0, .int .i64 0], .bool false]) (by simp [results, Try.results24, go_sem, q0, q1, q2, q3]) rfl ?_
    exact ⟨rfl, by { repeat (first | exact N1.out | refine New.setCell ?_ (by first | omega | (simp; omega) | (simp; done)) _) }⟩
  have hp : 0 < (chgA n m xs ys).length := by omega
  have EB : Hid (dmB n m xs ys = v4 (dmR n m xs ys)) := Lib.hid (by unfold dmB; rw [decide_eq_true hp, Bool.true_and])
  have AT := Lib.hid (fun k (h : k < (chgA n m xs ys).length) => chgA_at h)
  have WD := Lib.hid (fun k (h : k ≤ (chgA n m xs ys).length) => dmTo_wide (n := n) (m := m) (xs := xs) (ys := ys) (k := k) hp h)
  have hj16 := chgA_len n m xs ys
  have EQ := Lib.hid (show dmQ n m xs ys = if v4 (dmTo xs ys (chgA n m xs ys) (chgA n m xs ys).length) then dmTo xs ys (chgA n m xs ys) (chgA n m xs ys).length else (0, 0, 0, 0) by unfold dmQ; rw [EB.out]; rfl)
  have EB2 := Lib.hid (show dmB n m xs ys = v4 (dmTo xs ys (chgA n m xs ys) (chgA n m xs ys).length) from EB.out)
  clear EB hj
  go_enter Try.func24, Try.ntmps24
  go_wp2_with fail
  refine (SChangedRects_ans A B n c m d xs ys hn hm _ HX.out HY.out).mono ?_
  generalize chgA n m xs ys = js at *
  rintro e w2 ⟨A1, j, c1, rfl, l1, r1, N1⟩
  subst l1
  have HJ := Lib.hid (r1.ints rfl)
  have HX := Lib.hid (HX.out.new N1); have HY := Lib.hid (HY.out.new N1)
  have RR := Lib.hid (R0.out.new N1)
  have z2 := (R0.out.new N1).lt
  have N2 := Lib.hid (N0.out.trans N1)
  clear r1 N1 R0 N0
  have j16 : (js.length : Int) ≤ 16 := by omega
  have jp : (0 : Int) < (js.length : Int) := by omega
  have jne : ((js.length : Int) == 0) = false := by rw [beq_eq_false_iff_ne]; omega
  obtain ⟨i0, e0, i0n, i0m, v0, -, -⟩ := AT.out 0 hp
  have i0i : (0 : Int) ≤ (i0 : Int) := by omega
  have i0j : (i0 : Int) < (n : Int) := by omega
  obtain ⟨bj, offj, rfl, hbj, hcj⟩ := HJ.out.at_ hp
  have cj := hcj 0 hp
  rw [e0] at cj
  simp only [Nat.add_zero] at cj
  clear hcj
  obtain ⟨b, off, rfl, hb, hc⟩ := HX.out.at_ (by omega)
  have g0 : w2.cell? ⟨b, off + i0 * 4, none⟩ = some (.int .i64 (xs.getD (i0 * 4) 0)) := hc (i0 * 4) (by have := idx_lt (m := 4) (j := 0) i0n (by omega); omega)
  have g1 : w2.cell? ⟨b, off + i0 * 4 + 1, none⟩ = some (.int .i64 (xs.getD (i0 * 4 + 1) 0)) := hc (i0 * 4 + 1) (by have := idx_lt (m := 4) (j := 1) i0n (by omega); omega)
  have g2 : w2.cell? ⟨b, off + i0 * 4 + 2, none⟩ = some (.int .i64 (xs.getD (i0 * 4 + 2) 0)) := hc (i0 * 4 + 2) (by have := idx_lt (m := 4) (j := 2) i0n (by omega); omega)
  have g3 : w2.cell? ⟨b, off + i0 * 4 + 3, none⟩ = some (.int .i64 (xs.getD (i0 * 4 + 3) 0)) := hc (i0 * 4 + 3) (by have := idx_lt (m := 4) (j := 3) i0n (by omega); omega)
  clear hc
  have D0 := Lib.hid (show dmTo xs ys js 0 = (xs.getD (i0 * 4) 0, xs.getD (i0 * 4 + 1) 0, xs.getD (i0 * 4 + 2) 0, xs.getD (i0 * 4 + 3) 0) by rw [dmTo_zero, e0]; rfl)
  clear e0 v0
  generalize xs.getD (i0 * 4) 0 = x0 at g0 D0
  generalize xs.getD (i0 * 4 + 1) 0 = x1 at g1 D0
  generalize xs.getD (i0 * 4 + 2) 0 = x2 at g2 D0
  generalize xs.getD (i0 * 4 + 3) 0 = x3 at g3 D0
  go_wp2
  have RD := Lib.hid (Row.oneRect w2 x0 x1 x2 x3 34)
  have ND := Lib.hid (show New w2 (w2.alloc (.cells #[.int .i64 x0, .int .i64 x1, .int .i64 x2, .int .i64 x3] 34)) by (repeat (first | exact New.refl _ | assumption | refine New.alloc ?_ _ | refine New.drew ?_ | refine New.drewN ?_ _ | refine New.setCell ?_ (by first | omega | (simp; omega) | (simp; done)) _ | refine New.trans ?_ (by assumption))))
  generalize w2.alloc (.cells #[.int .i64 x0, .int .i64 x1, .int .i64 x2, .int .i64 x3] 34) = w3 at RD ND ⊢
  go_loopw [8] (fun i wr => ∃ k : Nat, k ≤ js.length ∧ i = .int .i64 (k : Int) ∧ Hid (Row wr w2.heap.size (l4 (dmTo xs ys js k))) ∧ Hid (New w2 wr)) (fun i _ => js.length - (intOf i).toNat)
  case atStart => exact ⟨0, Nat.zero_le _, rfl, Lib.hid (by rw [D0.out]; exact RD.out), ND⟩
  case round =>
    clear RD ND D0 g0 g1 g2 g3 cj
    obtain ⟨k, hk, rfl, HR, HN⟩ := hrel
    have zr : w2.heap.size < wr.heap.size := HR.out.lt
    have HW := Lib.hid (WD.out k hk)
    have HS := Lib.hid (dmTo_step xs ys js k)
    obtain ⟨p0, p1, p2, p3⟩ := Row.allRect HR.out
    have F0 := HR.out.f
    simp only [l4, List.length_cons, List.length_nil] at F0
    have f0 := F0 0 (by omega); have f1 := F0 1 (by omega); have f2 := F0 2 (by omega); have f3 := F0 3 (by omega)
    clear F0
    by_cases hlt : k < js.length
    · have k0 : (0 : Int) ≤ (k : Int) := by omega
      have k1 : (k : Int) < (js.length : Int) := by omega
      obtain ⟨i, ei, hin, him, va, vb, -⟩ := AT.out k hlt
      have ii0 : (0 : Int) ≤ (i : Int) := by omega
      have ii1 : (i : Int) < (n : Int) := by omega
      have ii2 : (i : Int) < (m : Int) := by omega
      have WA := Lib.hid (w4_rg va); have WB := Lib.hid (w4_rg vb)
      rw [ei] at HS
      clear va vb
      obtain ⟨b', off', rfl, hb', hc'⟩ := HY.out.at_ (by omega)
      have hcx : ∀ f, f < 4 → w2.cell? ⟨b, off + (i * 4 + f), none⟩ = some (.int .i64 (xs.getD (i * 4 + f) 0)) := fun f hf => by
        obtain ⟨b0, o0, e, _, h⟩ := HX.out.at_ (by omega)
        simp only [Option.some.injEq, Addr.mk.injEq, and_true] at e
        obtain ⟨rfl, rfl⟩ := e
        exact h _ (idx_lt hin hf)
      have cj : w2.cell? ⟨bj, offj + k, none⟩ = some (.int .i64 (i : Int)) := by
        have h := HJ.out.cell_ hlt
        rw [ei] at h
        exact h
      have KF := Lib.hid (fun W (hW : New w2 W) => (show W.cell? ⟨bj, offj + k, none⟩ = some (.int .i64 (i : Int)) ∧ (W.cell? ⟨b, off + i * 4, none⟩ = some (.int .i64 (xs.getD (i * 4) 0)) ∧ W.cell? ⟨b, off + i * 4 + 1, none⟩ = some (.int .i64 (xs.getD (i * 4 + 1) 0)) ∧ W.cell? ⟨b, off + i * 4 + 2, none⟩ = some (.int .i64 (xs.getD (i * 4 + 2) 0)) ∧ W.cell? ⟨b, off + i * 4 + 3, none⟩ = some (.int .i64 (xs.getD (i * 4 + 3) 0))) ∧ (W.cell? ⟨b', off' + i * 4, none⟩ = some (.int .i64 (ys.getD (i * 4) 0)) ∧ W.cell? ⟨b', off' + i * 4 + 1, none⟩ = some (.int .i64 (ys.getD (i * 4 + 1) 0)) ∧ W.cell? ⟨b', off' + i * 4 + 2, none⟩ = some (.int .i64 (ys.getD (i * 4 + 2) 0)) ∧ W.cell? ⟨b', off' + i * 4 + 3, none⟩ = some (.int .i64 (ys.getD (i * 4 + 3) 0))) from
        ⟨(hW.cells bj _ hbj).trans cj, ⟨(hW.cells b _ hb).trans (hcx 0 (by omega)), (hW.cells b _ hb).trans (hcx 1 (by omega)), (hW.cells b _ hb).trans (hcx 2 (by omega)), (hW.cells b _ hb).trans (hcx 3 (by omega))⟩, (hW.cells b' _ hb').trans (hc' (i * 4) (by have := idx_lt (m := 4) (j := 0) him (by omega); omega)), (hW.cells b' _ hb').trans (hc' (i * 4 + 1) (by have := idx_lt (m := 4) (j := 1) him (by omega); omega)), (hW.cells b' _ hb').trans (hc' (i * 4 + 2) (by have := idx_lt (m := 4) (j := 2) him (by omega); omega)), (hW.cells b' _ hb').trans (hc' (i * 4 + 3) (by have := idx_lt (m := 4) (j := 3) him (by omega); omega))⟩))
      clear hcx hc' cj ei
      obtain ⟨cj, ⟨g0, g1, g2, g3⟩, o0, o1, o2, o3⟩ := KF.out wr HN.out
      unfold rg at WA WB
      rw [show rg xs ((i : Int)).toNat = (xs.getD (i * 4) 0, xs.getD (i * 4 + 1) 0, xs.getD (i * 4 + 2) 0, xs.getD (i * 4 + 3) 0) from rfl, show rg ys ((i : Int)).toNat = (ys.getD (i * 4) 0, ys.getD (i * 4 + 1) 0, ys.getD (i * 4 + 2) 0, ys.getD (i * 4 + 3) 0) from rfl] at HS
      generalize xs.getD (i * 4) 0 = y0 at *
      generalize xs.getD (i * 4 + 1) 0 = y1 at *
      generalize xs.getD (i * 4 + 2) 0 = y2 at *
      generalize xs.getD (i * 4 + 3) 0 = y3 at *
      generalize ys.getD (i * 4) 0 = z0 at *
      generalize ys.getD (i * 4 + 1) 0 = z1 at *
      generalize ys.getD (i * 4 + 2) 0 = z2 at *
      generalize ys.getD (i * 4 + 3) 0 = z3 at *
      generalize dmTo xs ys js k = D at *
      obtain ⟨d0, d1, d2, d3⟩ := D
      unfold w4 at HW WA WB
      dsimp only at p0 p1 p2 p3 HW WA WB
      go_wp2
      have NW := Lib.hid HN.out.drew
      have KK := KF.out _ NW.out
      have RW := Lib.hid (HR.out.new (New.refl wr).drew)
      obtain ⟨kj, ⟨kg0, kg1, kg2, kg3⟩, ko0, ko1, ko2, ko3⟩ := KK
      clear g0 g1 g2 g3 o0 o1 o2 o3 cj
      refine wp_region_noPanic ?_
      refine wp_region_held_drew (S := fun w' => w'.cell? ⟨bj, offj + k, none⟩ = some (.int .i64 (i : Int)) ∧ (w'.cell? ⟨b, off + i * 4, none⟩ = some (.int .i64 y0) ∧ w'.cell? ⟨b, off + i * 4 + 1, none⟩ = some (.int .i64 y1) ∧ w'.cell? ⟨b, off + i * 4 + 2, none⟩ = some (.int .i64 y2) ∧ w'.cell? ⟨b, off + i * 4 + 3, none⟩ = some (.int .i64 y3)) ∧ (w'.cell? ⟨b', off' + i * 4, none⟩ = some (.int .i64 z0) ∧ w'.cell? ⟨b', off' + i * 4 + 1, none⟩ = some (.int .i64 z1) ∧ w'.cell? ⟨b', off' + i * 4 + 2, none⟩ = some (.int .i64 z2) ∧ w'.cell? ⟨b', off' + i * 4 + 3, none⟩ = some (.int .i64 z3))) (by kernel_rfl) ?_ (fun hHeld => ?_)
      · (first | exact KF.out _ (by assumption) | exact KF.out _ NW.out | exact KF.out _ (by { repeat (first | exact NW.out | refine New.setCell ?_ (by first | omega | (simp; omega) | (simp; done)) _) }))
      refine wpAnyH_take (i := 1) (oi := _) (v := ?_) rfl (by kernel_rfl) (by kernel_rfl) (by kernel_rfl) (fun _ _ _ h => h) (Or.inl ⟨by rfl, ?_⟩) (by assumption) ?_
      rotate_left; (intro w' hSw; (try dsimp only at hSw); go_split_ands; go_simp; (try with_reducible rfl))
      try simp only [Act.put, List.setIfInBounds_toArray]
      refine wpAnyH_take (i := 2) (oi := _) (v := ?_) rfl (by kernel_rfl) (by kernel_rfl) (by kernel_rfl) (fun _ _ _ h => h) (Or.inl ⟨by rfl, ?_⟩) (by assumption) ?_
      rotate_left; (intro w' hSw; (try dsimp only at hSw); go_split_ands; go_simp; (try with_reducible rfl))
      try simp only [Act.put]
      refine wpAnyH_take (i := 3) (oi := _) (v := ?_) rfl (by kernel_rfl) (by kernel_rfl) (by kernel_rfl) (fun _ _ _ h => h) (Or.inl ⟨by rfl, ?_⟩) (by assumption) ?_
      rotate_left; (intro w' hSw; (try dsimp only at hSw); go_split_ands; go_simp; (try with_reducible rfl))
      try simp only [Act.put]
      refine wpAnyH_take (i := 4) (oi := _) (v := ?_) rfl (by kernel_rfl) (by kernel_rfl) (by kernel_rfl) (fun _ _ _ h => h) (Or.inl ⟨by rfl, ?_⟩) (by assumption) ?_
      rotate_left; (intro w' hSw; (try dsimp only at hSw); go_split_ands; go_simp; (try with_reducible rfl))
      try simp only [Act.put]
      refine wpAnyH_take (i := 5) (oi := _) (v := ?_) rfl (by kernel_rfl) (by kernel_rfl) (by kernel_rfl) (fun _ _ _ h => h) (Or.inl ⟨by rfl, ?_⟩) (by assumption) ?_
      rotate_left; (intro w' hSw; (try dsimp only at hSw); go_split_ands; go_simp; (try with_reducible rfl))
      try simp only [Act.put]
      refine wpAnyH_take (i := 6) (oi := _) (v := ?_) rfl (by kernel_rfl) (by kernel_rfl) (by kernel_rfl) (fun _ _ _ h => h) (Or.inl ⟨by rfl, ?_⟩) (by assumption) ?_
      rotate_left; (intro w' hSw; (try dsimp only at hSw); go_split_ands; go_simp; (try with_reducible rfl))
      try simp only [Act.put]
      refine wpAnyH_take (i := 7) (oi := _) (v := ?_) rfl (by kernel_rfl) (by kernel_rfl) (by kernel_rfl) (fun _ _ _ h => h) (Or.inl ⟨by rfl, ?_⟩) (by assumption) ?_
      rotate_left; (intro w' hSw; (try dsimp only at hSw); go_split_ands; go_simp; (try with_reducible rfl))
      try simp only [Act.put]
      refine wpAnyH_take (i := 9) (oi := _) (v := ?_) rfl (by kernel_rfl) (by kernel_rfl) (by kernel_rfl) (fun _ _ _ h => h) (Or.inl ⟨by rfl, ?_⟩) (by assumption) ?_
      rotate_left; (intro w' hSw; (try dsimp only at hSw); go_split_ands; go_simp; (try with_reducible rfl))
      try simp only [Act.put]
      refine wpAnyH_take (i := 10) (oi := _) (v := ?_) rfl (by kernel_rfl) (by kernel_rfl) (by kernel_rfl) (fun _ _ _ h => h) (Or.inl ⟨by rfl, ?_⟩) (by assumption) ?_
      rotate_left; (intro w' hSw; (try dsimp only at hSw); go_split_ands; go_simp; (try with_reducible rfl))
      try simp only [Act.put]
      refine wpAnyH_take (i := 11) (oi := _) (v := ?_) rfl (by kernel_rfl) (by kernel_rfl) (by kernel_rfl) (fun _ _ _ h => h) (Or.inl ⟨by rfl, ?_⟩) (by assumption) ?_
      rotate_left; (intro w' hSw; (try dsimp only at hSw); go_split_ands; go_simp; (try with_reducible rfl))
      try simp only [Act.put]
      refine wpAnyH_take (i := 12) (oi := _) (v := ?_) rfl (by kernel_rfl) (by kernel_rfl) (by kernel_rfl) (fun _ _ _ h => h) (Or.inl ⟨by rfl, ?_⟩) (by assumption) ?_
      rotate_left; (intro w' hSw; (try dsimp only at hSw); go_split_ands; go_simp; (try with_reducible rfl))
      try simp only [Act.put]
      refine wpAnyH_take (i := 13) (oi := _) (v := ?_) rfl (by kernel_rfl) (by kernel_rfl) (by kernel_rfl) (fun _ _ _ h => h) (Or.inl ⟨by rfl, ?_⟩) (by assumption) ?_
      rotate_left; (intro w' hSw; (try dsimp only at hSw); go_split_ands; go_simp; (try with_reducible rfl))
      try simp only [Act.put]
      refine wpAnyH_take (i := 14) (oi := _) (v := ?_) rfl (by kernel_rfl) (by kernel_rfl) (by kernel_rfl) (fun _ _ _ h => h) (Or.inl ⟨by rfl, ?_⟩) (by assumption) ?_
      rotate_left; (intro w' hSw; (try dsimp only at hSw); go_split_ands; go_simp; (try with_reducible rfl))
      try simp only [Act.put]
      refine wpAnyH_take (i := 15) (oi := _) (v := ?_) rfl (by kernel_rfl) (by kernel_rfl) (by kernel_rfl) (fun _ _ _ h => h) (Or.inl ⟨by rfl, ?_⟩) (by assumption) ?_
      rotate_left; (intro w' hSw; (try dsimp only at hSw); go_split_ands; go_simp; (try with_reducible rfl))
      try simp only [Act.put]
      refine wpAnyH_ready (rs := [0]) (by kernel_rfl) (by simp) ?_
      refine AllReadyH.cons (o := _) rfl (fun K hK => ?_) AllReadyH.nil
      go_simp
      refine hK.out _ _ ?_ (fun hH0 => ?_)
      · (first | exact KF.out _ (by assumption) | exact KF.out _ NW.out | exact KF.out _ (by { repeat (first | exact NW.out | refine New.setCell ?_ (by first | omega | (simp; omega) | (simp; done)) _) }))
      clear hK K
      try simp only [Act.put, List.setIfInBounds_toArray, List.set_cons_zero, List.set_cons_succ]
      refine wpAnyH_ready (rs := [8]) (by kernel_rfl) (by simp) ?_
      refine AllReadyH.cons (o := _) rfl (fun K hK => ?_) AllReadyH.nil
      go_simp
      (first | (go_at_call 44; refine (shullW_any _ _ _ _ _ _ _ _ _ HW.out WA.out).mono ?_; rintro e w4_ ⟨rfl, h4⟩; (have H1 := Lib.hid (wR_hull HW.out WA.out)); clear HW WA; (have p0 := (h4.cells _ 0 (by first | omega | (simp; omega) | (simp; done))).trans p0); (have f0 := (h4.marks _ 0 (by first | omega | (simp; omega) | (simp; done))).trans f0); (have p1 := (h4.cells _ 1 (by first | omega | (simp; omega) | (simp; done))).trans p1); (have f1 := (h4.marks _ 1 (by first | omega | (simp; omega) | (simp; done))).trans f1); (have p2 := (h4.cells _ 2 (by first | omega | (simp; omega) | (simp; done))).trans p2); (have f2 := (h4.marks _ 2 (by first | omega | (simp; omega) | (simp; done))).trans f2); (have p3 := (h4.cells _ 3 (by first | omega | (simp; omega) | (simp; done))).trans p3); (have f3 := (h4.marks _ 3 (by first | omega | (simp; omega) | (simp; done))).trans f3); (have RW := Lib.hid (RW.out.new h4)); (have zr := Nat.lt_of_lt_of_le zr h4.le); (replace NW := Lib.hid (NW.out.trans h4)); clear h4) | (go_at_call 44; refine (shullW_any _ _ _ _ _ _ _ _ _ H1.out WB.out).mono ?_; rintro e w5_ ⟨rfl, h5⟩; clear H1 WB; (have p0 := (h5.cells _ 0 (by first | omega | (simp; omega) | (simp; done))).trans p0); (have f0 := (h5.marks _ 0 (by first | omega | (simp; omega) | (simp; done))).trans f0); (have p1 := (h5.cells _ 1 (by first | omega | (simp; omega) | (simp; done))).trans p1); (have f1 := (h5.marks _ 1 (by first | omega | (simp; omega) | (simp; done))).trans f1); (have p2 := (h5.cells _ 2 (by first | omega | (simp; omega) | (simp; done))).trans p2); (have f2 := (h5.marks _ 2 (by first | omega | (simp; omega) | (simp; done))).trans f2); (have p3 := (h5.cells _ 3 (by first | omega | (simp; omega) | (simp; done))).trans p3); (have f3 := (h5.marks _ 3 (by first | omega | (simp; omega) | (simp; done))).trans f3); (have RW := Lib.hid (RW.out.new h5)); (have zr := Nat.lt_of_lt_of_le zr h5.le); (replace NW := Lib.hid (NW.out.trans h5)); clear h5))
      go_wp2_with fail
      refine hK.out _ _ ?_ (fun hH8 => ?_)
      · (first | exact KF.out _ (by assumption) | exact KF.out _ NW.out | exact KF.out _ (by { repeat (first | exact NW.out | refine New.setCell ?_ (by first | omega | (simp; omega) | (simp; done)) _) }))
      clear hK K
      try simp only [Act.put, List.setIfInBounds_toArray, List.set_cons_zero, List.set_cons_succ]
      refine wpAnyH_ready (rs := [16]) (by kernel_rfl) (by simp) ?_
      refine AllReadyH.cons (o := _) rfl (fun K hK => ?_) AllReadyH.nil
      go_simp
      (first | (go_at_call 44; refine (shullW_any _ _ _ _ _ _ _ _ _ HW.out WA.out).mono ?_; rintro e w4_ ⟨rfl, h4⟩; (have H1 := Lib.hid (wR_hull HW.out WA.out)); clear HW WA; (have p0 := (h4.cells _ 0 (by first | omega | (simp; omega) | (simp; done))).trans p0); (have f0 := (h4.marks _ 0 (by first | omega | (simp; omega) | (simp; done))).trans f0); (have p1 := (h4.cells _ 1 (by first | omega | (simp; omega) | (simp; done))).trans p1); (have f1 := (h4.marks _ 1 (by first | omega | (simp; omega) | (simp; done))).trans f1); (have p2 := (h4.cells _ 2 (by first | omega | (simp; omega) | (simp; done))).trans p2); (have f2 := (h4.marks _ 2 (by first | omega | (simp; omega) | (simp; done))).trans f2); (have p3 := (h4.cells _ 3 (by first | omega | (simp; omega) | (simp; done))).trans p3); (have f3 := (h4.marks _ 3 (by first | omega | (simp; omega) | (simp; done))).trans f3); (have RW := Lib.hid (RW.out.new h4)); (have zr := Nat.lt_of_lt_of_le zr h4.le); (replace NW := Lib.hid (NW.out.trans h4)); clear h4) | (go_at_call 44; refine (shullW_any _ _ _ _ _ _ _ _ _ H1.out WB.out).mono ?_; rintro e w5_ ⟨rfl, h5⟩; clear H1 WB; (have p0 := (h5.cells _ 0 (by first | omega | (simp; omega) | (simp; done))).trans p0); (have f0 := (h5.marks _ 0 (by first | omega | (simp; omega) | (simp; done))).trans f0); (have p1 := (h5.cells _ 1 (by first | omega | (simp; omega) | (simp; done))).trans p1); (have f1 := (h5.marks _ 1 (by first | omega | (simp; omega) | (simp; done))).trans f1); (have p2 := (h5.cells _ 2 (by first | omega | (simp; omega) | (simp; done))).trans p2); (have f2 := (h5.marks _ 2 (by first | omega | (simp; omega) | (simp; done))).trans f2); (have p3 := (h5.cells _ 3 (by first | omega | (simp; omega) | (simp; done))).trans p3); (have f3 := (h5.marks _ 3 (by first | omega | (simp; omega) | (simp; done))).trans f3); (have RW := Lib.hid (RW.out.new h5)); (have zr := Nat.lt_of_lt_of_le zr h5.le); (replace NW := Lib.hid (NW.out.trans h5)); clear h5))
      go_wp2_with fail
      refine hK.out _ _ ?_ (fun hH16 => ?_)
      · (first | exact KF.out _ (by assumption) | exact KF.out _ NW.out | exact KF.out _ (by { repeat (first | exact NW.out | refine New.setCell ?_ (by first | omega | (simp; omega) | (simp; done)) _) }))
      clear hK K
      try simp only [Act.put, List.setIfInBounds_toArray, List.set_cons_zero, List.set_cons_succ]
      refine wpAnyH_ready (rs := [17]) (by kernel_rfl) (by simp) ?_
      refine AllReadyH.cons (o := _) rfl (fun K hK => ?_) AllReadyH.nil
      go_simp
      refine hK.out _ _ ?_ (fun hH17 => ?_)
      · (first | exact KF.out _ (by assumption) | exact KF.out _ NW.out | exact KF.out _ (by { repeat (first | exact NW.out | refine New.setCell ?_ (by first | omega | (simp; omega) | (simp; done)) _) }))
      clear hK K
      try simp only [Act.put, List.setIfInBounds_toArray, List.set_cons_zero, List.set_cons_succ]
      refine wpAnyH_done (by kernel_rfl) ?_ _
      refine NoPanic.normal ?_
      go_wp2
      go_roundw
      case rel => exact ⟨k + 1, by omega, by go_num, by rw [HS.out]; exact Lib.hid (Row.four RW.out _ _ _ _), Lib.hid ((((NW.out.setCell (Nat.le_refl _) _).setCell (Nat.le_refl _) _).setCell (Nat.le_refl _) _).setCell (Nat.le_refl _) _)⟩
      case measure => simp [intOf]; omega
    · obtain rfl : js.length = k := by omega
      have NF := Lib.hid (N2.out.trans HN.out)
      have RQ := Lib.hid (RR.out.new HN.out)
      obtain ⟨q0, q1, q2, q3⟩ := Row.allRect RQ.out
      have F1 := RQ.out.f
      simp only [List.length_cons, List.length_nil] at F1
      have e0 := F1 0 (by omega); have e1 := F1 1 (by omega); have e2 := F1 2 (by omega); have e3 := F1 3 (by omega)
      clear F1 HS
      have zq : w.heap.size < wr.heap.size := RQ.out.lt
      generalize dmTo xs ys js js.length = D at *
      obtain ⟨d0, d1, d2, d3⟩ := D
      dsimp only at p0 p1 p2 p3
      cases hv : vR d0 d1 d2 d3
      · rw [show v4 (d0, d1, d2, d3) = false from hv] at EQ EB2
        simp only [Bool.false_eq_true, if_false] at EQ
        have hv := Lib.hid hv
        go_wp2_with (go_at_call 45; refine (validRect_any _ _ _ _ _).mono ?_; rw [hv.out]; rintro e w6 ⟨rfl, h6⟩; (have p0 := (h6.cells _ 0 zr).trans p0); (have p1 := (h6.cells _ 1 zr).trans p1); (have p2 := (h6.cells _ 2 zr).trans p2); (have p3 := (h6.cells _ 3 zr).trans p3); (have q0 := (h6.cells _ 0 zq).trans q0); (have q1 := (h6.cells _ 1 zq).trans q1); (have q2 := (h6.cells _ 2 zq).trans q2); (have q3 := (h6.cells _ 3 zq).trans q3); (have e0 := (h6.marks _ 0 zq).trans e0); (have e1 := (h6.marks _ 1 zq).trans e1); (have e2 := (h6.marks _ 2 zq).trans e2); (have e3 := (h6.marks _ 3 zq).trans e3); (have NF := Lib.hid (NF.out.trans h6)); clear h6)
        refine bodyPost_ret (v := .tuple #[.agg #[.int .i64 0, .int .i64 0, .int .i64 0, .int .i64 0], .bool false]) (by simp [results, Try.results24, go_sem, q0, q1, q2, q3]) rfl ?_
        exact ⟨by rw [EQ.out, EB2.out], by { repeat (first | exact NF.out | refine New.setCell ?_ (by first | omega | (simp; omega) | (simp; done)) _) }⟩
      · rw [show v4 (d0, d1, d2, d3) = true from hv] at EQ EB2
        simp only [if_true] at EQ
        have hv := Lib.hid hv
        go_wp2_with (go_at_call 45; refine (validRect_any _ _ _ _ _).mono ?_; rw [hv.out]; rintro e w6 ⟨rfl, h6⟩; (have p0 := (h6.cells _ 0 zr).trans p0); (have p1 := (h6.cells _ 1 zr).trans p1); (have p2 := (h6.cells _ 2 zr).trans p2); (have p3 := (h6.cells _ 3 zr).trans p3); (have q0 := (h6.cells _ 0 zq).trans q0); (have q1 := (h6.cells _ 1 zq).trans q1); (have q2 := (h6.cells _ 2 zq).trans q2); (have q3 := (h6.cells _ 3 zq).trans q3); (have e0 := (h6.marks _ 0 zq).trans e0); (have e1 := (h6.marks _ 1 zq).trans e1); (have e2 := (h6.marks _ 2 zq).trans e2); (have e3 := (h6.marks _ 3 zq).trans e3); (have NF := Lib.hid (NF.out.trans h6)); clear h6)
        refine bodyPost_ret (v := .tuple #[.agg #[.int .i64 d0, .int .i64 d1, .int .i64 d2, .int .i64 d3], .bool true]) (by simp [results, Try.results24, go_sem, q0, q1, q2, q3]) rfl ?_
        exact ⟨by rw [EQ.out, EB2.out], by { repeat (first | exact NF.out | refine New.setCell ?_ (by first | omega | (simp; omega) | (simp; done)) _) }⟩
end Go.Proofs.Ytckdokijmlpngaa
