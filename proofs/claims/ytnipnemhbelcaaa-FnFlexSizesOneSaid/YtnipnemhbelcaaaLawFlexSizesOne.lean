/- The law FnFlexSizesOne, walked: one size takes what it can. Condition: the code can be read. -/
import Derived.Test.YtnipnemhbelcaaaDrawFS
import Derived.Test.YtnipnemhbelcaaaFlexH
import Derived.Test.YtnipnemhbelcaaaFlexQ
import Derived.Test.YtnipnemhbelcaaaInts2
namespace Go.Proofs.Ytnipnemhbelcaaa
open Go.RowKit

set_option maxRecDepth 100000 in
set_option maxHeartbeats 4000000 in
theorem lawFlexSizesOne (A : Option Addr) (n c : Nat) (hn : n ≤ maxLen) (hnc : n ≤ c) (w : World) (hb : Bytes w A n) :
    Calls Try.prog 5 #[.slice A n c] w fun e w' => e = .returned (.bool true) ∧ New w w' := by
  have HB := Lib.hid hb; have HM := Lib.hid hn
  clear hb
  unfold maxLen at hn
  by_cases hbig : 1048576 < n
  · go_enter Try.func5, Try.ntmps5
    go_wp2
    go_ret
    exact ⟨rfl, by (repeat (first | exact New.refl _ | assumption | refine New.alloc ?_ _ | refine New.drew ?_ | refine New.drewN ?_ _ | refine New.setCell ?_ (by first | omega | (simp; omega) | (simp; done)) _ | refine New.trans ?_ (by assumption)))⟩
  have hm : (n : Int) ≤ 1048576 := by omega
  have hm0 : (0 : Int) ≤ (n : Int) := by omega
  go_enter Try.func5, Try.ntmps5
  go_wp2_with fail
  refine (DrawFlexSizes_any A n c HM.out hnc _ HB.out).mono ?_
  rintro e w1 ⟨B1, m1, d1, ys, x, rfl, I1, mc, m9, _, xb, N1a⟩
  have s1 := N1a.le
  have N1 := Lib.hid ((New.refl w).trans N1a); clear N1a
  replace I1 := Lib.hid I1
  have LY := Lib.hid I1.out.len
  have y0 : (0 : Int) ≤ (m1 : Int) := by omega
  have y1 : (m1 : Int) ≤ 9 := by omega
  by_cases hz : flexA m1 ys x = []
  · have HZ := Lib.hid hz
    clear hz
    go_wp2_with fail
    refine (FlexSizes_ans ys x B1 m1 d1 _ I1.out (by omega)).mono ?_
    rintro e w2 ⟨A2, n2, c2, rfl, l2, r2, N2a⟩
    have s2 := N2a.le
    have I1 := Lib.hid (I1.out.new N2a)
    have N2 := Lib.hid (N1.out.trans N2a); clear N2a
    rw [HZ.out] at l2 r2
    obtain rfl : 0 = n2 := by simpa using l2
    have R2 := Lib.hid r2; clear l2 r2
    go_wp2_with fail
    refine (SFlexSizes_ans ys x B1 m1 d1 _ I1.out (by omega)).mono ?_
    rintro e w3 ⟨A3, n3, c3, rfl, l3, r3, N3a⟩
    have s3 := N3a.le
    have I1 := Lib.hid (I1.out.new N3a)
    have R2 := Lib.hid (R2.out.new N3a)
    have N3 := Lib.hid (N2.out.trans N3a); clear N3a
    rw [HZ.out] at l3 r3
    obtain rfl : 0 = n3 := by simpa using l3
    have R3 := Lib.hid r3; clear l3 r3
    go_wp2_with fail
    refine (equalInts_any _ _ 0 0 _ _ [] [] (by omega) (by omega) _ (R2.out.ints rfl) (R3.out.ints rfl)).mono ?_
    (rw [decide_eq_true rfl]; rintro e w4 ⟨rfl, N4a⟩)
    have s4 := N4a.le
    have I1 := Lib.hid (I1.out.new N4a)
    have R2 := Lib.hid (R2.out.new N4a)
    have R3 := Lib.hid (R3.out.new N4a)
    have N4 := Lib.hid (N3.out.trans N4a); clear N4a
    go_wp2_with fail
    refine (SFlexSizes_ans ys x B1 m1 d1 _ I1.out (by omega)).mono ?_
    rintro e w5 ⟨A5, n5, c5, rfl, l5, r5, N5a⟩
    have s5 := N5a.le
    have I1 := Lib.hid (I1.out.new N5a)
    have R2 := Lib.hid (R2.out.new N5a)
    have R3 := Lib.hid (R3.out.new N5a)
    have N5 := Lib.hid (N4.out.trans N5a); clear N5a
    rw [HZ.out] at l5 r5
    obtain rfl : 0 = n5 := by simpa using l5
    have R5 := Lib.hid r5; clear l5 r5
    go_wp2_with fail
    refine (equalInts_any _ _ 0 0 _ _ [] [] (by omega) (by omega) _ (R2.out.ints rfl) (R5.out.ints rfl)).mono ?_
    (rw [decide_eq_true rfl]; rintro e w6 ⟨rfl, N6a⟩)
    have s6 := N6a.le
    have I1 := Lib.hid (I1.out.new N6a)
    have R2 := Lib.hid (R2.out.new N6a)
    have R3 := Lib.hid (R3.out.new N6a)
    have R5 := Lib.hid (R5.out.new N6a)
    have N6 := Lib.hid (N5.out.trans N6a); clear N6a
    go_wp2
    go_ret
    exact ⟨rfl, N6.out⟩
  · have zp : 0 < (flexA m1 ys x).length := List.length_pos_iff.2 hz
    have zc := flexA_len m1 ys x
    obtain ⟨nz, LZ⟩ : ∃ nz, Hid ((flexA m1 ys x).length = nz) := ⟨_, Lib.hid rfl⟩
    have z1 : 1 ≤ nz := by have := LZ.out; omega
    have z8 : nz ≤ 1048576 := by have := LZ.out; omega
    have zi : (1 : Int) ≤ (nz : Int) := by omega
    have zj : (nz : Int) ≤ 1048576 := by omega
    have zb : ((nz : Int) == 0) = false := by simp; omega
    have NE := Lib.hid hz
    clear hz zp zc
    go_wp2_with fail
    refine (FlexSizes_ans ys x B1 m1 d1 _ I1.out (by omega)).mono ?_
    rintro e w2 ⟨A2, n2, c2, rfl, l2, r2, N2a⟩
    have s2 := N2a.le
    have I1 := Lib.hid (I1.out.new N2a)
    have N2 := Lib.hid (N1.out.trans N2a); clear N2a
    obtain rfl : nz = n2 := by have := LZ.out; omega
    have R2 := Lib.hid r2; clear l2 r2
    go_wp2_with fail
    refine (SFlexSizes_ans ys x B1 m1 d1 _ I1.out (by omega)).mono ?_
    rintro e w3 ⟨A3, n3, c3, rfl, l3, r3, N3a⟩
    have s3 := N3a.le
    have I1 := Lib.hid (I1.out.new N3a)
    have R2 := Lib.hid (R2.out.new N3a)
    have N3 := Lib.hid (N2.out.trans N3a); clear N3a
    obtain rfl : nz = n3 := by have := LZ.out; omega
    have R3 := Lib.hid r3; clear l3 r3
    go_wp2_with fail
    refine (equalInts_any _ _ nz nz _ _ _ _ (by omega) (by omega) _ (R2.out.ints LZ.out) (R3.out.ints LZ.out)).mono ?_
    (rw [decide_eq_true rfl]; rintro e w4 ⟨rfl, N4a⟩)
    have s4 := N4a.le
    have I1 := Lib.hid (I1.out.new N4a)
    have R2 := Lib.hid (R2.out.new N4a)
    have R3 := Lib.hid (R3.out.new N4a)
    have N4 := Lib.hid (N3.out.trans N4a); clear N4a
    have hok : flOkA m1 ys x = true := by
      have h := NE.out
      unfold flexA at h
      by_cases hk : flOkA m1 ys x = true
      · exact hk
      · rw [if_neg hk] at h; exact absurd rfl h
    have he : flexA m1 ys x = flexL m1 ys x := if_pos hok
    obtain ⟨hv, hs⟩ := flOkA_iff.1 hok
    have nm : nz = m1 := by have h1 := LZ.out; rw [he, flexL_len] at h1; omega
    subst nm
    have n8 := (flsB_iff.1 hv).1.2
    have ni8 : (nz : Int) ≤ 8 := by omega
    have HE := Lib.hid he; have HV := Lib.hid hv; have HS := Lib.hid hs
    clear hok he hv
    have hk := flOk_iff.1 ((flsB_iff.1 HV.out).2 0 (by omega))
    obtain ⟨b, off, rfl, hb, hc⟩ := I1.out.at_ (by omega)
    obtain ⟨y0, e0⟩ : ∃ y, ys.getD (0 * 5) 0 = y := ⟨_, rfl⟩
    have g0 : w4.cell? ⟨b, off, none⟩ = some (.int .i64 y0) := by rw [← e0]; have h := hc (0 * 5) (by omega); simp only [Nat.zero_mul, Nat.add_zero] at h ⊢; exact h
    rw [e0] at hk
    obtain ⟨y1, e1⟩ : ∃ y, ys.getD (0 * 5 + 1) 0 = y := ⟨_, rfl⟩
    have g1 : w4.cell? ⟨b, off + 1, none⟩ = some (.int .i64 y1) := by rw [← e1]; have h := hc (0 * 5 + 1) (by omega); simp only [Nat.zero_mul, Nat.zero_add] at h ⊢; exact h
    rw [e1] at hk
    obtain ⟨y2, e2⟩ : ∃ y, ys.getD (0 * 5 + 2) 0 = y := ⟨_, rfl⟩
    have g2 : w4.cell? ⟨b, off + 2, none⟩ = some (.int .i64 y2) := by rw [← e2]; have h := hc (0 * 5 + 2) (by omega); simp only [Nat.zero_mul, Nat.zero_add] at h ⊢; exact h
    rw [e2] at hk
    obtain ⟨y3, e3⟩ : ∃ y, ys.getD (0 * 5 + 3) 0 = y := ⟨_, rfl⟩
    have g3 : w4.cell? ⟨b, off + 3, none⟩ = some (.int .i64 y3) := by rw [← e3]; have h := hc (0 * 5 + 3) (by omega); simp only [Nat.zero_mul, Nat.zero_add] at h ⊢; exact h
    rw [e3] at hk
    obtain ⟨y4, e4⟩ : ∃ y, ys.getD (0 * 5 + 4) 0 = y := ⟨_, rfl⟩
    have g4 : w4.cell? ⟨b, off + 4, none⟩ = some (.int .i64 y4) := by rw [← e4]; have h := hc (0 * 5 + 4) (by omega); simp only [Nat.zero_mul, Nat.zero_add] at h ⊢; exact h
    rw [e4] at hk
    clear e0 e1 e2 e3 e4 hc
    have hv1 : flsB 1 [y0, y1, y2, 1, 1] = true := by
      rw [flsB_iff]
      refine ⟨by omega, fun i hi => ?_⟩
      obtain rfl : i = 0 := by omega
      rw [flOk_iff]
      simp
      omega
    have hf : flexA 1 [y0, y1, y2, 1, 1] x = [max y1 (min y2 x)] := by
      unfold flexA
      rw [if_pos (flOkA_iff.2 ⟨hv1, hs⟩), flex_one hv1 hs]
    obtain ⟨ov, hov⟩ : ∃ ov, ov = mx y1 (mn y2 x) := ⟨_, rfl⟩
    have HF : Hid (flexA 1 [y0, y1, y2, 1, 1] x = [ov]) := Lib.hid (by rw [hf, hov]; rfl)
    have hmn := fun W ts t => run_mn Try.prog W ts t y2 x
    have hmx := fun W ts t => run_mx Try.prog W ts t y1 (mn y2 x)
    rw [← hov] at hmx
    have NN := Lib.hid N4.out
    clear hk hv1 hf hs hov
    have NW := Lib.hid ((New.refl w4).alloc (.cells #[.int .i64 y0, .int .i64 y1, .int .i64 y2, .int .i64 1, .int .i64 1] 40))
    have hz4 : w4.heap.size < (w4.alloc (.cells #[.int .i64 y0, .int .i64 y1, .int .i64 y2, .int .i64 1, .int .i64 1] 40)).heap.size := by simp
    have c0 : (w4.alloc (.cells #[.int .i64 y0, .int .i64 y1, .int .i64 y2, .int .i64 1, .int .i64 1] 40)).cell? ⟨w4.heap.size, 0, none⟩ = some (.int .i64 y0) := by simp [go_sem]
    have c1 : (w4.alloc (.cells #[.int .i64 y0, .int .i64 y1, .int .i64 y2, .int .i64 1, .int .i64 1] 40)).cell? ⟨w4.heap.size, 1, none⟩ = some (.int .i64 y1) := by simp [go_sem]
    have c2 : (w4.alloc (.cells #[.int .i64 y0, .int .i64 y1, .int .i64 y2, .int .i64 1, .int .i64 1] 40)).cell? ⟨w4.heap.size, 2, none⟩ = some (.int .i64 y2) := by simp [go_sem]
    have c3 : (w4.alloc (.cells #[.int .i64 y0, .int .i64 y1, .int .i64 y2, .int .i64 1, .int .i64 1] 40)).cell? ⟨w4.heap.size, 3, none⟩ = some (.int .i64 1) := by simp [go_sem]
    have c4 : (w4.alloc (.cells #[.int .i64 y0, .int .i64 y1, .int .i64 y2, .int .i64 1, .int .i64 1] 40)).cell? ⟨w4.heap.size, 4, none⟩ = some (.int .i64 1) := by simp [go_sem]
    go_wp2
    obtain ⟨wA, hwA⟩ : ∃ wA, w4.alloc (.cells #[.int .i64 y0, .int .i64 y1, .int .i64 y2, .int .i64 1, .int .i64 1] 40) = wA := ⟨_, rfl⟩
    rw [hwA] at NW hz4 c0 c1 c2 c3 c4 ⊢
    clear hwA
    have KF := Lib.hid (fun (W : World) (h : New wA W) => (⟨(h.cells _ _ hz4).trans c0, (h.cells _ _ hz4).trans c1, (h.cells _ _ hz4).trans c2, (h.cells _ _ hz4).trans c3, (h.cells _ _ hz4).trans c4⟩ : W.cell? ⟨w4.heap.size, 0, none⟩ = some (.int .i64 y0) ∧ W.cell? ⟨w4.heap.size, 1, none⟩ = some (.int .i64 y1) ∧ W.cell? ⟨w4.heap.size, 2, none⟩ = some (.int .i64 y2) ∧ W.cell? ⟨w4.heap.size, 3, none⟩ = some (.int .i64 1) ∧ W.cell? ⟨w4.heap.size, 4, none⟩ = some (.int .i64 1)))
    clear c0 c1 c2 c3 c4
    have V0 := Lib.hid (New.refl wA).drew
    refine wp_region_noPanic ?_
    refine wp_region_held_drew (S := fun w' => w'.cell? ⟨w4.heap.size, 0, none⟩ = some (.int .i64 y0) ∧ w'.cell? ⟨w4.heap.size, 1, none⟩ = some (.int .i64 y1) ∧ w'.cell? ⟨w4.heap.size, 2, none⟩ = some (.int .i64 y2) ∧ w'.cell? ⟨w4.heap.size, 3, none⟩ = some (.int .i64 1) ∧ w'.cell? ⟨w4.heap.size, 4, none⟩ = some (.int .i64 1)) (by kernel_rfl) (KF.out _ V0.out) (fun hHeld => ?_)
    generalize wA.drew = Vd at V0 hHeld ⊢
    refine wpAnyH_take (i := 0) (oi := _) (v := ?_) rfl (by kernel_rfl) (by kernel_rfl) (by kernel_rfl) (fun _ _ _ h => h) (Or.inl ⟨by rfl, ?_⟩) (by assumption) ?_
    rotate_left; (intro w' hSw; (try dsimp only at hSw); go_split_ands; go_simp; (try with_reducible rfl))
    try simp only [Act.put, List.setIfInBounds_toArray, List.set_cons_zero, List.set_cons_succ]
    refine wpAnyH_take (i := 2) (oi := _) (v := ?_) rfl (by kernel_rfl) (by kernel_rfl) (by kernel_rfl) (fun _ _ _ h => h) (Or.inl ⟨by rfl, ?_⟩) (by assumption) ?_
    rotate_left; (intro w' hSw; (try dsimp only at hSw); go_split_ands; go_simp; (try with_reducible rfl))
    try simp only [Act.put, List.setIfInBounds_toArray, List.set_cons_zero, List.set_cons_succ]
    refine wpAnyH_take (i := 4) (oi := _) (v := ?_) rfl (by kernel_rfl) (by kernel_rfl) (by kernel_rfl) (fun _ _ _ h => h) (Or.inl ⟨by rfl, ?_⟩) (by assumption) ?_
    rotate_left; (intro w' hSw; (try dsimp only at hSw); go_split_ands; go_simp; (try with_reducible rfl))
    try simp only [Act.put, List.setIfInBounds_toArray, List.set_cons_zero, List.set_cons_succ]
    refine wpAnyH_take (i := 5) (oi := _) (v := ?_) rfl (by kernel_rfl) (by kernel_rfl) (by kernel_rfl) (fun _ _ _ h => h) (Or.inl ⟨by rfl, ?_⟩) (by assumption) ?_
    rotate_left; (intro w' hSw; (try dsimp only at hSw); go_split_ands; go_simp; (try with_reducible rfl))
    try simp only [Act.put, List.setIfInBounds_toArray, List.set_cons_zero, List.set_cons_succ]
    refine wpAnyH_take (i := 6) (oi := _) (v := ?_) rfl (by kernel_rfl) (by kernel_rfl) (by kernel_rfl) (fun _ _ _ h => h) (Or.inl ⟨by rfl, ?_⟩) (by assumption) ?_
    rotate_left; (intro w' hSw; (try dsimp only at hSw); go_split_ands; go_simp; (try with_reducible rfl))
    try simp only [Act.put, List.setIfInBounds_toArray, List.set_cons_zero, List.set_cons_succ]
    refine wpAnyH_take (i := 7) (oi := _) (v := ?_) rfl (by kernel_rfl) (by kernel_rfl) (by kernel_rfl) (fun _ _ _ h => h) (Or.inl ⟨by rfl, ?_⟩) (by assumption) ?_
    rotate_left; (intro w' hSw; (try dsimp only at hSw); go_split_ands; go_simp; (try with_reducible rfl))
    try simp only [Act.put, List.setIfInBounds_toArray, List.set_cons_zero, List.set_cons_succ]
    refine wpAnyH_take (i := 8) (oi := _) (v := ?_) rfl (by kernel_rfl) (by kernel_rfl) (by kernel_rfl) (fun _ _ _ h => h) (Or.inl ⟨by rfl, ?_⟩) (by assumption) ?_
    rotate_left; (intro w' hSw; (try dsimp only at hSw); go_split_ands; go_simp; (try with_reducible rfl))
    try simp only [Act.put, List.setIfInBounds_toArray, List.set_cons_zero, List.set_cons_succ]
    refine wpAnyH_take (i := 9) (oi := _) (v := ?_) rfl (by kernel_rfl) (by kernel_rfl) (by kernel_rfl) (fun _ _ _ h => h) (Or.inl ⟨by rfl, ?_⟩) (by assumption) ?_
    rotate_left; (intro w' hSw; (try dsimp only at hSw); go_split_ands; go_simp; (try with_reducible rfl))
    try simp only [Act.put, List.setIfInBounds_toArray, List.set_cons_zero, List.set_cons_succ]
    refine wpAnyH_take (i := 10) (oi := _) (v := ?_) rfl (by kernel_rfl) (by kernel_rfl) (by kernel_rfl) (fun _ _ _ h => h) (Or.inl ⟨by rfl, ?_⟩) (by assumption) ?_
    rotate_left; (intro w' hSw; (try dsimp only at hSw); go_split_ands; go_simp; (try with_reducible rfl))
    try simp only [Act.put, List.setIfInBounds_toArray, List.set_cons_zero, List.set_cons_succ]
    refine wpAnyH_ready (rs := [1, 11]) (by kernel_rfl) (by simp) ?_
    refine AllReadyH.cons (o := _) rfl (fun K hK => ?_) (AllReadyH.cons (o := _) rfl (fun K hK => ?_) AllReadyH.nil)
    · have RF := Lib.hid ((Row.oneFlex Vd y0 y1 y2 1 1 40).sts5 (m := 5) rfl)
      have N1_ := Lib.hid (V0.out.alloc (.cells #[.int .i64 y0, .int .i64 y1, .int .i64 y2, .int .i64 1, .int .i64 1] 40))
      go_simp
      refine hK.out _ _ (KF.out _ N1_.out) (fun hH1 => ?_)
      clear hK K
      try simp only [Act.put, List.setIfInBounds_toArray, List.set_cons_zero, List.set_cons_succ]
      obtain ⟨bF, hbF⟩ : ∃ b, Vd.heap.size = b := ⟨_, rfl⟩
      rw [hbF] at RF ⊢
      generalize Vd.alloc (.cells #[.int .i64 y0, .int .i64 y1, .int .i64 y2, .int .i64 1, .int .i64 1] 40) = V1 at RF N1_ ⊢
      clear hbF
      refine wpAnyH_ready (rs := [3, 11]) (by kernel_rfl) (by simp) ?_
      refine AllReadyH.cons (o := _) rfl (fun K hK => ?_) (AllReadyH.cons (o := _) rfl (fun K hK => ?_) AllReadyH.nil)
      · go_simp
        go_at_call 18
        refine (FlexSizes_ans [y0, y1, y2, 1, 1] x (some ⟨bF, 0, none⟩) 1 1 V1 RF.out (by omega)).mono ?_
        rintro e w6 ⟨A6, n6, c6, rfl, l6, r6, N6⟩
        rw [HF.out] at l6 r6
        obtain rfl : n6 = 1 := l6.symm
        have R6 := Lib.hid (r6.ints (n := 1) rfl)
        have N3_ := Lib.hid (N1_.out.trans N6)
        clear r6 l6 N6
        go_wp2_with fail
        refine hK.out _ _ (KF.out _ N3_.out) (fun hH3 => ?_)
        clear hK K
        try simp only [Act.put, List.setIfInBounds_toArray, List.set_cons_zero, List.set_cons_succ]
        refine wpAnyH_ready (rs := [11]) (by kernel_rfl) (by simp) ?_
        refine AllReadyH.cons (o := _) rfl (fun K hK => ?_) AllReadyH.nil
        have J := Lib.hid (Ints.one w6 ov 3)
        have N2_ := Lib.hid (N3_.out.alloc (.cells #[.int .i64 ov] 3))
        have R6 := Lib.hid (R6.out.new ((New.refl w6).alloc (.cells #[.int .i64 ov] 3)))
        go_simp
        refine hK.out _ _ (KF.out _ N2_.out) (fun hH11 => ?_)
        clear hK K
        try simp only [Act.put, List.setIfInBounds_toArray, List.set_cons_zero, List.set_cons_succ]
        obtain ⟨bJ, hbJ⟩ : ∃ b, w6.heap.size = b := ⟨_, rfl⟩
        rw [hbJ] at J ⊢
        generalize w6.alloc (.cells #[.int .i64 ov] 3) = V2 at J N2_ R6 ⊢
        clear hbJ
        refine wpAnyH_ready (rs := [12]) (by kernel_rfl) (by simp) ?_
        refine AllReadyH.cons (o := _) rfl (fun K hK => ?_) AllReadyH.nil
        go_simp
        go_at_call 19
        refine (equalInts_any _ _ 1 1 _ 1 [ov] [ov] (by omega) (by omega) V2 R6.out J.out).mono ?_
        rw [decide_eq_true rfl]
        rintro e w7 ⟨rfl, N7⟩
        have N4_ := Lib.hid (N2_.out.trans N7)
        clear N7
        go_wp2_with fail
        refine hK.out _ _ (KF.out _ N4_.out) (fun hH12 => ?_)
        clear hK K
        try simp only [Act.put, List.setIfInBounds_toArray, List.set_cons_zero, List.set_cons_succ]
        refine wpAnyH_ready (rs := [13]) (by kernel_rfl) (by simp) ?_
        refine AllReadyH.cons (o := _) rfl (fun K hK => ?_) AllReadyH.nil
        go_simp
        refine hK.out _ _ (KF.out _ N4_.out) (fun hH13 => ?_)
        clear hK K
        try simp only [Act.put, List.setIfInBounds_toArray, List.set_cons_zero, List.set_cons_succ]
        refine wpAnyH_done (by kernel_rfl) ?_ _
        refine NoPanic.normal ?_
        go_wp2_with fail
        go_ret
        exact ⟨rfl, (NN.out.trans NW.out).trans N4_.out⟩
      · have J := Lib.hid (Ints.one V1 ov 3)
        have N2_ := Lib.hid (N1_.out.alloc (.cells #[.int .i64 ov] 3))
        have RF := Lib.hid (RF.out.new ((New.refl V1).alloc (.cells #[.int .i64 ov] 3)))
        go_simp
        refine hK.out _ _ (KF.out _ N2_.out) (fun hH11 => ?_)
        clear hK K
        try simp only [Act.put, List.setIfInBounds_toArray, List.set_cons_zero, List.set_cons_succ]
        obtain ⟨bJ, hbJ⟩ : ∃ b, V1.heap.size = b := ⟨_, rfl⟩
        rw [hbJ] at J ⊢
        generalize V1.alloc (.cells #[.int .i64 ov] 3) = V2 at J N2_ RF ⊢
        clear hbJ
        refine wpAnyH_ready (rs := [3]) (by kernel_rfl) (by simp) ?_
        refine AllReadyH.cons (o := _) rfl (fun K hK => ?_) AllReadyH.nil
        go_simp
        go_at_call 18
        refine (FlexSizes_ans [y0, y1, y2, 1, 1] x (some ⟨bF, 0, none⟩) 1 1 V2 RF.out (by omega)).mono ?_
        rintro e w6 ⟨A6, n6, c6, rfl, l6, r6, N6⟩
        rw [HF.out] at l6 r6
        obtain rfl : n6 = 1 := l6.symm
        have R6 := Lib.hid (r6.ints (n := 1) rfl)
        have N3_ := Lib.hid (N2_.out.trans N6)
        have J := Lib.hid (J.out.new N6)
        clear r6 l6 N6
        go_wp2_with fail
        refine hK.out _ _ (KF.out _ N3_.out) (fun hH3 => ?_)
        clear hK K
        try simp only [Act.put, List.setIfInBounds_toArray, List.set_cons_zero, List.set_cons_succ]
        refine wpAnyH_ready (rs := [12]) (by kernel_rfl) (by simp) ?_
        refine AllReadyH.cons (o := _) rfl (fun K hK => ?_) AllReadyH.nil
        go_simp
        go_at_call 19
        refine (equalInts_any _ _ 1 1 _ 1 [ov] [ov] (by omega) (by omega) w6 R6.out J.out).mono ?_
        rw [decide_eq_true rfl]
        rintro e w7 ⟨rfl, N7⟩
        have N4_ := Lib.hid (N3_.out.trans N7)
        clear N7
        go_wp2_with fail
        refine hK.out _ _ (KF.out _ N4_.out) (fun hH12 => ?_)
        clear hK K
        try simp only [Act.put, List.setIfInBounds_toArray, List.set_cons_zero, List.set_cons_succ]
        refine wpAnyH_ready (rs := [13]) (by kernel_rfl) (by simp) ?_
        refine AllReadyH.cons (o := _) rfl (fun K hK => ?_) AllReadyH.nil
        go_simp
        refine hK.out _ _ (KF.out _ N4_.out) (fun hH13 => ?_)
        clear hK K
        try simp only [Act.put, List.setIfInBounds_toArray, List.set_cons_zero, List.set_cons_succ]
        refine wpAnyH_done (by kernel_rfl) ?_ _
        refine NoPanic.normal ?_
        go_wp2_with fail
        go_ret
        exact ⟨rfl, (NN.out.trans NW.out).trans N4_.out⟩
    · have J := Lib.hid (Ints.one Vd ov 3)
      have N2_ := Lib.hid (V0.out.alloc (.cells #[.int .i64 ov] 3))
      go_simp
      refine hK.out _ _ (KF.out _ N2_.out) (fun hH11 => ?_)
      clear hK K
      try simp only [Act.put, List.setIfInBounds_toArray, List.set_cons_zero, List.set_cons_succ]
      obtain ⟨bJ, hbJ⟩ : ∃ b, Vd.heap.size = b := ⟨_, rfl⟩
      rw [hbJ] at J ⊢
      generalize Vd.alloc (.cells #[.int .i64 ov] 3) = V2 at J N2_ ⊢
      clear hbJ
      refine wpAnyH_ready (rs := [1]) (by kernel_rfl) (by simp) ?_
      refine AllReadyH.cons (o := _) rfl (fun K hK => ?_) AllReadyH.nil
      have RF := Lib.hid ((Row.oneFlex V2 y0 y1 y2 1 1 40).sts5 (m := 5) rfl)
      have N1_ := Lib.hid (N2_.out.alloc (.cells #[.int .i64 y0, .int .i64 y1, .int .i64 y2, .int .i64 1, .int .i64 1] 40))
      have J := Lib.hid (J.out.new ((New.refl V2).alloc (.cells #[.int .i64 y0, .int .i64 y1, .int .i64 y2, .int .i64 1, .int .i64 1] 40)))
      go_simp
      refine hK.out _ _ (KF.out _ N1_.out) (fun hH1 => ?_)
      clear hK K
      try simp only [Act.put, List.setIfInBounds_toArray, List.set_cons_zero, List.set_cons_succ]
      obtain ⟨bF, hbF⟩ : ∃ b, V2.heap.size = b := ⟨_, rfl⟩
      rw [hbF] at RF ⊢
      generalize V2.alloc (.cells #[.int .i64 y0, .int .i64 y1, .int .i64 y2, .int .i64 1, .int .i64 1] 40) = V1 at RF N1_ J ⊢
      clear hbF
      refine wpAnyH_ready (rs := [3]) (by kernel_rfl) (by simp) ?_
      refine AllReadyH.cons (o := _) rfl (fun K hK => ?_) AllReadyH.nil
      go_simp
      go_at_call 18
      refine (FlexSizes_ans [y0, y1, y2, 1, 1] x (some ⟨bF, 0, none⟩) 1 1 V1 RF.out (by omega)).mono ?_
      rintro e w6 ⟨A6, n6, c6, rfl, l6, r6, N6⟩
      rw [HF.out] at l6 r6
      obtain rfl : n6 = 1 := l6.symm
      have R6 := Lib.hid (r6.ints (n := 1) rfl)
      have N3_ := Lib.hid (N1_.out.trans N6)
      have J := Lib.hid (J.out.new N6)
      clear r6 l6 N6
      go_wp2_with fail
      refine hK.out _ _ (KF.out _ N3_.out) (fun hH3 => ?_)
      clear hK K
      try simp only [Act.put, List.setIfInBounds_toArray, List.set_cons_zero, List.set_cons_succ]
      refine wpAnyH_ready (rs := [12]) (by kernel_rfl) (by simp) ?_
      refine AllReadyH.cons (o := _) rfl (fun K hK => ?_) AllReadyH.nil
      go_simp
      go_at_call 19
      refine (equalInts_any _ _ 1 1 _ 1 [ov] [ov] (by omega) (by omega) w6 R6.out J.out).mono ?_
      rw [decide_eq_true rfl]
      rintro e w7 ⟨rfl, N7⟩
      have N4_ := Lib.hid (N3_.out.trans N7)
      clear N7
      go_wp2_with fail
      refine hK.out _ _ (KF.out _ N4_.out) (fun hH12 => ?_)
      clear hK K
      try simp only [Act.put, List.setIfInBounds_toArray, List.set_cons_zero, List.set_cons_succ]
      refine wpAnyH_ready (rs := [13]) (by kernel_rfl) (by simp) ?_
      refine AllReadyH.cons (o := _) rfl (fun K hK => ?_) AllReadyH.nil
      go_simp
      refine hK.out _ _ (KF.out _ N4_.out) (fun hH13 => ?_)
      clear hK K
      try simp only [Act.put, List.setIfInBounds_toArray, List.set_cons_zero, List.set_cons_succ]
      refine wpAnyH_done (by kernel_rfl) ?_ _
      refine NoPanic.normal ?_
      go_wp2_with fail
      go_ret
      exact ⟨rfl, (NN.out.trans NW.out).trans N4_.out⟩
end Go.Proofs.Ytnipnemhbelcaaa
