/- The law FnDirtyRootsOne, walked: one marked box is its own root, and with one around it this one is. Condition: the code can be read. -/
import Derived.Test.YtobnjagmakhgpaaDrawDi
import Derived.Test.YtobnjagmakhgpaaDirtyL
import Derived.Test.YtobnjagmakhgpaaDirtyQ
import Derived.Test.YtobnjagmakhgpaaYD
import Derived.Test.YtobnjagmakhgpaaZF
import Derived.Deep.RegionHeld3
namespace Go.Proofs.Ytobnjagmakhgpaa
open Go.RowKit

set_option maxHeartbeats 4000000 in
theorem lawDirtyRootsOne (A : Option Addr) (n c : Nat) (hn : n ≤ maxLen) (hnc : n ≤ c) (w : World) (hb : Bytes w A n) :
    Calls Try.prog 8 #[.slice A n c] w fun e w' => e = .returned (.bool true) ∧ New w w' := by
  have HB := Lib.hid hb; have HM := Lib.hid hn
  clear hb
  unfold maxLen at hn
  by_cases hbig : 1048576 < n
  · go_enter Try.func8, Try.ntmps8
    go_wp2
    go_ret
    exact ⟨rfl, by (repeat (first | exact New.refl _ | assumption | refine New.alloc ?_ _ | refine New.drew ?_ | refine New.drewN ?_ _ | refine New.setCell ?_ (by first | omega | (simp; omega) | (simp; done)) _ | refine New.trans ?_ (by assumption)))⟩
  have hm : (n : Int) ≤ 1048576 := by omega
  have hm0 : (0 : Int) ≤ (n : Int) := by omega
  go_enter Try.func8, Try.ntmps8
  go_wp2_with fail
  refine (DrawDirtyRoots_any A n c HM.out hnc _ HB.out).mono ?_
  rintro e w1 ⟨B1, m1, d1, zs, B2, m2, d2, ms, rfl, I1, I2, l1, kd, l2, ld, S2, PC, N1a⟩
  have s1 := N1a.le
  have N1 := Lib.hid ((New.refl w).trans N1a); clear N1a
  replace I1 := Lib.hid I1
  replace I2 := Lib.hid I2
  have LM := Lib.hid I2.out.len
  by_cases hz : drA m1 zs ms = []
  · have HZ : Hid ((drA m1 zs ms).length = 0) := Lib.hid (by rw [hz]; rfl)
    clear hz
    go_wp2_with fail
    refine (DirtyRoots_ans B1 B2 m1 d1 m2 d2 zs ms (by omega) (by omega) _ I1.out I2.out).mono ?_
    rintro e w2 ⟨A2, n2, c2, rfl, l2, r2, N2a⟩
    have s2 := N2a.le
    have I1 := Lib.hid (I1.out.new N2a)
    have I2 := Lib.hid (I2.out.new N2a)
    have N2 := Lib.hid (N1.out.trans N2a); clear N2a
    obtain rfl : 0 = n2 := by have := HZ.out; omega
    have R2 := Lib.hid r2; clear l2 r2
    go_wp2_with fail
    refine (SDirtyRoots_ans B1 B2 m1 d1 m2 d2 zs ms (by omega) (by omega) _ I1.out I2.out).mono ?_
    rintro e w3 ⟨A3, n3, c3, rfl, l3, r3, N3a⟩
    have s3 := N3a.le
    have I1 := Lib.hid (I1.out.new N3a)
    have I2 := Lib.hid (I2.out.new N3a)
    have R2 := Lib.hid (R2.out.new N3a)
    have N3 := Lib.hid (N2.out.trans N3a); clear N3a
    obtain rfl : 0 = n3 := by have := HZ.out; omega
    have R3 := Lib.hid r3; clear l3 r3
    go_wp2_with fail
    refine (equalInts_any _ _ 0 0 _ _ _ _ (by omega) (by omega) _ (R2.out.ints HZ.out) (R3.out.ints HZ.out)).mono ?_
    rw [decide_eq_true rfl]
    rintro e w4 ⟨rfl, N4a⟩
    have s4 := N4a.le
    have I1 := Lib.hid (I1.out.new N4a)
    have I2 := Lib.hid (I2.out.new N4a)
    have R2 := Lib.hid (R2.out.new N4a)
    have R3 := Lib.hid (R3.out.new N4a)
    have N4 := Lib.hid (N3.out.trans N4a); clear N4a
    go_wp2_with fail
    refine (SDirtyRoots_ans B1 B2 m1 d1 m2 d2 zs ms (by omega) (by omega) _ I1.out I2.out).mono ?_
    rintro e w5 ⟨A5, n5, c5, rfl, l5, r5, N5a⟩
    have s5 := N5a.le
    have I1 := Lib.hid (I1.out.new N5a)
    have I2 := Lib.hid (I2.out.new N5a)
    have R2 := Lib.hid (R2.out.new N5a)
    have R3 := Lib.hid (R3.out.new N5a)
    have N5 := Lib.hid (N4.out.trans N5a); clear N5a
    obtain rfl : 0 = n5 := by have := HZ.out; omega
    have R5 := Lib.hid r5; clear l5 r5
    go_wp2_with fail
    refine (equalInts_any _ _ 0 0 _ _ _ _ (by omega) (by omega) _ (R2.out.ints HZ.out) (R5.out.ints HZ.out)).mono ?_
    rw [decide_eq_true rfl]
    rintro e w6 ⟨rfl, N6a⟩
    have s6 := N6a.le
    have I1 := Lib.hid (I1.out.new N6a)
    have I2 := Lib.hid (I2.out.new N6a)
    have R2 := Lib.hid (R2.out.new N6a)
    have R3 := Lib.hid (R3.out.new N6a)
    have R5 := Lib.hid (R5.out.new N6a)
    have N6 := Lib.hid (N5.out.trans N6a); clear N6a
    go_wp2
    go_ret
    exact ⟨rfl, N6.out⟩
  · have hok : marksB m1 zs ms = true := by cases hh : marksB m1 zs ms with | true => rfl | false => exact absurd (by unfold drA; rw [hh]; rfl) hz
    obtain ⟨nz, hnz⟩ : ∃ nz, (drA m1 zs ms).length = nz := ⟨_, rfl⟩
    have nz16 : nz ≤ 16 := by rw [← hnz]; exact drA_len
    have nz1 : 1 ≤ nz := by rw [← hnz]; exact List.length_pos_iff.2 hz
    have zi : (1 : Int) ≤ (nz : Int) := by omega
    have zj : (nz : Int) ≤ 16 := by omega
    have zb : ((nz : Int) == 0) = false := by simp; omega
    have HZ := Lib.hid hnz; have HOK := Lib.hid hok
    obtain ⟨hv, _, hms⟩ := mks_at hok
    obtain ⟨v0, v1⟩ := (vtB_iff.1 hv).1
    have V := Lib.hid hv; have MB := Lib.hid hms
    clear hz hnz hok hv hms
    go_wp2_with fail
    refine (DirtyRoots_ans B1 B2 m1 d1 m2 d2 zs ms (by omega) (by omega) _ I1.out I2.out).mono ?_
    rintro e w2 ⟨A2, n2, c2, rfl, l2, r2, N2a⟩
    have s2 := N2a.le
    have I1 := Lib.hid (I1.out.new N2a)
    have I2 := Lib.hid (I2.out.new N2a)
    have N2 := Lib.hid (N1.out.trans N2a); clear N2a
    obtain rfl : nz = n2 := by have := HZ.out; omega
    have R2 := Lib.hid r2; clear l2 r2
    go_wp2_with fail
    refine (SDirtyRoots_ans B1 B2 m1 d1 m2 d2 zs ms (by omega) (by omega) _ I1.out I2.out).mono ?_
    rintro e w3 ⟨A3, n3, c3, rfl, l3, r3, N3a⟩
    have s3 := N3a.le
    have I1 := Lib.hid (I1.out.new N3a)
    have I2 := Lib.hid (I2.out.new N3a)
    have R2 := Lib.hid (R2.out.new N3a)
    have N3 := Lib.hid (N2.out.trans N3a); clear N3a
    obtain rfl : nz = n3 := by have := HZ.out; omega
    have R3 := Lib.hid r3; clear l3 r3
    go_wp2_with fail
    refine (equalInts_any _ _ nz nz _ _ _ _ (by omega) (by omega) _ (R2.out.ints HZ.out) (R3.out.ints HZ.out)).mono ?_
    rw [decide_eq_true rfl]
    rintro e w4 ⟨rfl, N4a⟩
    have s4 := N4a.le
    have I1 := Lib.hid (I1.out.new N4a)
    have I2 := Lib.hid (I2.out.new N4a)
    have R2 := Lib.hid (R2.out.new N4a)
    have R3 := Lib.hid (R3.out.new N4a)
    have N4 := Lib.hid (N3.out.trans N4a); clear N4a
    have m0 := marks_some HOK.out (by rw [HZ.out]; exact nz1)
    rw [LM.out] at m0
    obtain ⟨a, ha, hae⟩ : ∃ a : Nat, a < m1 ∧ ms.getD 0 0 = (a : Int) := by
      have hm : ms.getD 0 0 ∈ ms := getD_in (by rw [LM.out]; exact m0)
      obtain ⟨h1, h2⟩ := MB.out _ hm
      exact ⟨(ms.getD 0 0).toNat, by omega, by omega⟩
    obtain ⟨b3, off3, rfl, hb3, hc3⟩ := I2.out.at_ m0
    have gm : w4.cell? ⟨b3, off3, none⟩ = some (.int .i64 (a : Int)) := by have h := hc3 0 m0; rw [hae, Nat.add_zero] at h; exact h
    have mi : (0 : Int) < (m2 : Int) := by omega
    have a0 : (0 : Int) ≤ (a : Int) := by omega
    have a1 : (a : Int) < (m1 : Int) := by omega
    have LN0 := pathA_size V.out ha
    have d5 := dep_le5 V.out ha
    obtain ⟨np, hnp⟩ : ∃ np, dep zs a + 1 = np := ⟨_, rfl⟩
    rw [hnp] at LN0
    have LN := Lib.hid LN0
    have np6 : (np : Int) ≤ 6 := by omega
    have np0 : (0 : Int) ≤ (np : Int) := by omega
    have np1 : 0 < np := by omega
    have PE := Lib.hid (pathA_at V.out ha)
    have PB := Lib.hid (fun d (hd : d < np) => (path_at (zs := zs) (i := a) (d := d) (by rw [path_len]; omega)).1)
    have R1 := Lib.hid (root_one V.out ha)
    have RT := Lib.hid (fun u (hu : anc zs u a = true) => root_two V.out ha hu)
    clear LN0 hnp d5 hc3 hae
    go_wp2_with fail
    refine (PathTo_ans B1 m1 d1 zs (a : Int) (by omega) _ I1.out).mono ?_
    rintro e w5 ⟨A5, n5, c5, rfl, l5, r5, N5a⟩
    have s5 := N5a.le
    have I1 := Lib.hid (I1.out.new N5a)
    have I2 := Lib.hid (I2.out.new N5a)
    have R2 := Lib.hid (R2.out.new N5a)
    have N5 := Lib.hid (N4.out.trans N5a); clear N5a
    obtain rfl : np = n5 := by have := LN.out; omega
    have R5 := Lib.hid r5; clear l5 r5
    have NN := Lib.hid (N5.out)
    obtain ⟨b', off', rfl, hb', hc'⟩ := (R5.out.ints LN.out).at_ (by omega)
    have GP := Lib.hid (fun j (hj : j < np) X (hX : New w5 X) => (show X.cell? ⟨b', off' + j, none⟩ = some (.int .i64 (((pathL zs a).getD j 0 : Nat) : Int)) by
      have h := (hX.cells b' _ hb').trans (hc' j hj)
      rw [PE.out, getD_map] at h
      exact h))
    clear hc' hb' gm hb3
    go_wp2
    go_loopw [8] (fun i wr => ∃ j : Nat, j ≤ np ∧ i = .int .i64 j ∧ Hid (New w5 wr)) (fun i _ => np - (intOf i).toNat)
    case atStart => exact ⟨0, Nat.zero_le _, rfl, Lib.hid (New.refl _)⟩
    case round =>
      obtain ⟨j, hj, rfl, HW⟩ := hrel
      have j0 : (0 : Int) ≤ (j : Int) := by omega
      by_cases hlt : j < np
      · have j1 : (j : Int) < (np : Int) := by omega
        have gpj := Lib.hid (GP.out j hlt)
        have pj := PB.out j hlt
        generalize (pathL zs a).getD j 0 = u at *
        have RU := Lib.hid (RT.out u pj)
        have ND := Lib.hid (New.refl wr).drew
        have KF := Lib.hid (fun X (hX : New wr X) => gpj.out X (HW.out.trans hX))
        clear pj
        go_wp2
        refine wp_region_noPanic ?_
        refine wp_region_held_drew (S := fun w' => w'.cell? ⟨b', off' + j, none⟩ = some (.int .i64 (u : Int))) (by kernel_rfl) (KF.out _ ND.out) (fun hHeld => ?_)
        generalize wr.drew = Vd at ND hHeld ⊢
        refine wpAnyH_take (i := 0) (oi := _) (v := ?_) rfl (by kernel_rfl) (by kernel_rfl) (by kernel_rfl) (fun _ _ _ h => h) (Or.inl ⟨by rfl, ?_⟩) (by assumption) ?_
        rotate_left; (intro w' hSw; (try dsimp only at hSw); go_split_ands; go_simp; (try with_reducible rfl))
        try simp only [Act.put, List.setIfInBounds_toArray, List.set_cons_zero, List.set_cons_succ]
        refine wpAnyH_take (i := 1) (oi := _) (v := ?_) rfl (by kernel_rfl) (by kernel_rfl) (by kernel_rfl) (fun _ _ _ h => h) (Or.inl ⟨by rfl, ?_⟩) (by assumption) ?_
        rotate_left; (intro w' hSw; (try dsimp only at hSw); go_split_ands; go_simp; (try with_reducible rfl))
        try simp only [Act.put, List.setIfInBounds_toArray, List.set_cons_zero, List.set_cons_succ]
        refine wpAnyH_take (i := 2) (oi := _) (v := ?_) rfl (by kernel_rfl) (by kernel_rfl) (by kernel_rfl) (fun _ _ _ h => h) (Or.inl ⟨by rfl, ?_⟩) (by assumption) ?_
        rotate_left; (intro w' hSw; (try dsimp only at hSw); go_split_ands; go_simp; (try with_reducible rfl))
        try simp only [Act.put, List.setIfInBounds_toArray, List.set_cons_zero, List.set_cons_succ]
        refine wpAnyH_take (i := 3) (oi := _) (v := ?_) rfl (by kernel_rfl) (by kernel_rfl) (by kernel_rfl) (fun _ _ _ h => h) (Or.inl ⟨by rfl, ?_⟩) (by assumption) ?_
        rotate_left; (intro w' hSw; (try dsimp only at hSw); go_split_ands; go_simp; (try with_reducible rfl))
        try simp only [Act.put, List.setIfInBounds_toArray, List.set_cons_zero, List.set_cons_succ]
        refine wpAnyH_take (i := 4) (oi := _) (v := ?_) rfl (by kernel_rfl) (by kernel_rfl) (by kernel_rfl) (fun _ _ _ h => h) (Or.inl ⟨by rfl, ?_⟩) (by assumption) ?_
        rotate_left; (intro w' hSw; (try dsimp only at hSw); go_split_ands; go_simp; (try with_reducible rfl))
        try simp only [Act.put, List.setIfInBounds_toArray, List.set_cons_zero, List.set_cons_succ]
        refine wpAnyH_take (i := 5) (oi := _) (v := ?_) rfl (by kernel_rfl) (by kernel_rfl) (by kernel_rfl) (fun _ _ _ h => h) (Or.inl ⟨by rfl, ?_⟩) (by assumption) ?_
        rotate_left; (intro w' hSw; (try dsimp only at hSw); go_split_ands; go_simp; (try with_reducible rfl))
        try simp only [Act.put, List.setIfInBounds_toArray, List.set_cons_zero, List.set_cons_succ]
        refine wpAnyH_take (i := 8) (oi := _) (v := ?_) rfl (by kernel_rfl) (by kernel_rfl) (by kernel_rfl) (fun _ _ _ h => h) (Or.inl ⟨by rfl, ?_⟩) (by assumption) ?_
        rotate_left; (intro w' hSw; (try dsimp only at hSw); go_split_ands; go_simp; (try with_reducible rfl))
        try simp only [Act.put, List.setIfInBounds_toArray, List.set_cons_zero, List.set_cons_succ]
        refine wpAnyH_take (i := 9) (oi := _) (v := ?_) rfl (by kernel_rfl) (by kernel_rfl) (by kernel_rfl) (fun _ _ _ h => h) (Or.inl ⟨by rfl, ?_⟩) (by assumption) ?_
        rotate_left; (intro w' hSw; (try dsimp only at hSw); go_split_ands; go_simp; (try with_reducible rfl))
        try simp only [Act.put, List.setIfInBounds_toArray, List.set_cons_zero, List.set_cons_succ]
        refine wpAnyH_take (i := 10) (oi := _) (v := ?_) rfl (by kernel_rfl) (by kernel_rfl) (by kernel_rfl) (fun _ _ _ h => h) (Or.inl ⟨by rfl, ?_⟩) (by assumption) ?_
        rotate_left; (intro w' hSw; (try dsimp only at hSw); go_split_ands; go_simp; (try with_reducible rfl))
        try simp only [Act.put, List.setIfInBounds_toArray, List.set_cons_zero, List.set_cons_succ]
        refine wpAnyH_take (i := 11) (oi := _) (v := ?_) rfl (by kernel_rfl) (by kernel_rfl) (by kernel_rfl) (fun _ _ _ h => h) (Or.inl ⟨by rfl, ?_⟩) (by assumption) ?_
        rotate_left; (intro w' hSw; (try dsimp only at hSw); go_split_ands; go_simp; (try with_reducible rfl))
        try simp only [Act.put, List.setIfInBounds_toArray, List.set_cons_zero, List.set_cons_succ]
        refine wpAnyH_ready (rs := [6, 12]) (by kernel_rfl) (by simp) ?_
        refine AllReadyH.cons (o := _) rfl (fun K hK => ?_) (AllReadyH.cons (o := _) rfl (fun K hK => ?_) AllReadyH.nil)
        · have RF := Lib.hid (lit2i Vd (a : Int) (u : Int) 3)
          have N6_ := Lib.hid (ND.out.alloc (.cells #[.int .i64 (a : Int), .int .i64 (u : Int)] 3))
          go_simp
          refine hK.out _ _ (KF.out _ N6_.out) (fun hH6 => ?_)
          clear hK K
          try simp only [Act.put, List.setIfInBounds_toArray, List.set_cons_zero, List.set_cons_succ]
          obtain ⟨bF, hbF⟩ : ∃ b, Vd.heap.size = b := ⟨_, rfl⟩
          rw [hbF] at RF ⊢
          generalize Vd.alloc (.cells #[.int .i64 (a : Int), .int .i64 (u : Int)] 3) = V6 at RF N6_ ⊢
          clear hbF
          refine wpAnyH_ready (rs := [7, 12]) (by kernel_rfl) (by simp) ?_
          refine AllReadyH.cons (o := _) rfl (fun K hK => ?_) (AllReadyH.cons (o := _) rfl (fun K hK => ?_) AllReadyH.nil)
          · go_simp
            go_at_call 32
            refine (DirtyRoots_ans B1 (some ⟨bF, 0, none⟩) m1 d1 2 2 zs [(a : Int), (u : Int)] (by omega) (by omega) V6 (I1.out.new (HW.out.trans N6_.out)) RF.out).mono ?_
            rintro e w6 ⟨A6, n6, c6, rfl, l6, r6, N6⟩
            rw [RU.out] at l6 r6
            obtain rfl : n6 = 1 := l6.symm
            have R6 := Lib.hid (r6.ints (n := 1) rfl)
            have N7_ := Lib.hid (N6_.out.trans N6)
            clear r6 l6 N6
            go_wp2_with fail
            refine hK.out _ _ (KF.out _ N7_.out) (fun hH7 => ?_)
            clear hK K
            try simp only [Act.put, List.setIfInBounds_toArray, List.set_cons_zero, List.set_cons_succ]
            refine wpAnyH_ready (rs := [12]) (by kernel_rfl) (by simp) ?_
            refine AllReadyH.cons (o := _) rfl (fun K hK => ?_) AllReadyH.nil
            have J := Lib.hid (Ints.one w6 (u : Int) 3)
            have N12_ := Lib.hid (N7_.out.alloc (.cells #[.int .i64 (u : Int)] 3))
            have R6 := Lib.hid (R6.out.new ((New.refl w6).alloc (.cells #[.int .i64 (u : Int)] 3)))
            go_simp
            refine hK.out _ _ (KF.out _ N12_.out) (fun hH12 => ?_)
            clear hK K
            try simp only [Act.put, List.setIfInBounds_toArray, List.set_cons_zero, List.set_cons_succ]
            obtain ⟨bJ, hbJ⟩ : ∃ b, w6.heap.size = b := ⟨_, rfl⟩
            rw [hbJ] at J ⊢
            generalize w6.alloc (.cells #[.int .i64 (u : Int)] 3) = V12 at J N12_ R6 ⊢
            clear hbJ
            refine wpAnyH_ready (rs := [13]) (by kernel_rfl) (by simp) ?_
            refine AllReadyH.cons (o := _) rfl (fun K hK => ?_) AllReadyH.nil
            go_simp
            go_at_call 15
            refine (equalInts_any _ _ 1 1 _ 1 [(u : Int)] [(u : Int)] (by omega) (by omega) V12 R6.out J.out).mono ?_
            rw [decide_eq_true rfl]
            rintro e w7 ⟨rfl, N7⟩
            have N13_ := Lib.hid (N12_.out.trans N7)
            clear N7
            go_wp2_with fail
            refine hK.out _ _ (KF.out _ N13_.out) (fun hH13 => ?_)
            clear hK K
            try simp only [Act.put, List.setIfInBounds_toArray, List.set_cons_zero, List.set_cons_succ]
            refine wpAnyH_take (i := 14) (oi := _) (v := ?_) rfl (by kernel_rfl) (by kernel_rfl) (by kernel_rfl) (fun _ _ _ h => h) (Or.inl ⟨by rfl, ?_⟩) (by assumption) ?_
            rotate_left; (intro w' hSw; (try dsimp only at hSw); go_split_ands; go_simp; (try with_reducible rfl))
            try simp only [Act.put, List.setIfInBounds_toArray, List.set_cons_zero, List.set_cons_succ]
            refine wpAnyH_done (by kernel_rfl) ?_ _
            refine NoPanic.normal ?_
            go_wp2
            go_roundw
            case rel => exact ⟨j + 1, by omega, by go_num, Lib.hid (HW.out.trans N13_.out)⟩
            case measure => simp [intOf]; omega
          · have J := Lib.hid (Ints.one V6 (u : Int) 3)
            have N12_ := Lib.hid (N6_.out.alloc (.cells #[.int .i64 (u : Int)] 3))
            have RF := Lib.hid (RF.out.new ((New.refl V6).alloc (.cells #[.int .i64 (u : Int)] 3)))
            go_simp
            refine hK.out _ _ (KF.out _ N12_.out) (fun hH12 => ?_)
            clear hK K
            try simp only [Act.put, List.setIfInBounds_toArray, List.set_cons_zero, List.set_cons_succ]
            obtain ⟨bJ, hbJ⟩ : ∃ b, V6.heap.size = b := ⟨_, rfl⟩
            rw [hbJ] at J ⊢
            generalize V6.alloc (.cells #[.int .i64 (u : Int)] 3) = V12 at J N12_ RF ⊢
            clear hbJ
            refine wpAnyH_ready (rs := [7]) (by kernel_rfl) (by simp) ?_
            refine AllReadyH.cons (o := _) rfl (fun K hK => ?_) AllReadyH.nil
            go_simp
            go_at_call 32
            refine (DirtyRoots_ans B1 (some ⟨bF, 0, none⟩) m1 d1 2 2 zs [(a : Int), (u : Int)] (by omega) (by omega) V12 (I1.out.new (HW.out.trans N12_.out)) RF.out).mono ?_
            rintro e w6 ⟨A6, n6, c6, rfl, l6, r6, N6⟩
            rw [RU.out] at l6 r6
            obtain rfl : n6 = 1 := l6.symm
            have R6 := Lib.hid (r6.ints (n := 1) rfl)
            have N7_ := Lib.hid (N12_.out.trans N6)
            have J := Lib.hid (J.out.new N6)
            clear r6 l6 N6
            go_wp2_with fail
            refine hK.out _ _ (KF.out _ N7_.out) (fun hH7 => ?_)
            clear hK K
            try simp only [Act.put, List.setIfInBounds_toArray, List.set_cons_zero, List.set_cons_succ]
            refine wpAnyH_ready (rs := [13]) (by kernel_rfl) (by simp) ?_
            refine AllReadyH.cons (o := _) rfl (fun K hK => ?_) AllReadyH.nil
            go_simp
            go_at_call 15
            refine (equalInts_any _ _ 1 1 _ 1 [(u : Int)] [(u : Int)] (by omega) (by omega) w6 R6.out J.out).mono ?_
            rw [decide_eq_true rfl]
            rintro e w7 ⟨rfl, N7⟩
            have N13_ := Lib.hid (N7_.out.trans N7)
            clear N7
            go_wp2_with fail
            refine hK.out _ _ (KF.out _ N13_.out) (fun hH13 => ?_)
            clear hK K
            try simp only [Act.put, List.setIfInBounds_toArray, List.set_cons_zero, List.set_cons_succ]
            refine wpAnyH_take (i := 14) (oi := _) (v := ?_) rfl (by kernel_rfl) (by kernel_rfl) (by kernel_rfl) (fun _ _ _ h => h) (Or.inl ⟨by rfl, ?_⟩) (by assumption) ?_
            rotate_left; (intro w' hSw; (try dsimp only at hSw); go_split_ands; go_simp; (try with_reducible rfl))
            try simp only [Act.put, List.setIfInBounds_toArray, List.set_cons_zero, List.set_cons_succ]
            refine wpAnyH_done (by kernel_rfl) ?_ _
            refine NoPanic.normal ?_
            go_wp2
            go_roundw
            case rel => exact ⟨j + 1, by omega, by go_num, Lib.hid (HW.out.trans N13_.out)⟩
            case measure => simp [intOf]; omega
        · have J := Lib.hid (Ints.one Vd (u : Int) 3)
          have N12_ := Lib.hid (ND.out.alloc (.cells #[.int .i64 (u : Int)] 3))
          go_simp
          refine hK.out _ _ (KF.out _ N12_.out) (fun hH12 => ?_)
          clear hK K
          try simp only [Act.put, List.setIfInBounds_toArray, List.set_cons_zero, List.set_cons_succ]
          obtain ⟨bJ, hbJ⟩ : ∃ b, Vd.heap.size = b := ⟨_, rfl⟩
          rw [hbJ] at J ⊢
          generalize Vd.alloc (.cells #[.int .i64 (u : Int)] 3) = V12 at J N12_ ⊢
          clear hbJ
          refine wpAnyH_ready (rs := [6]) (by kernel_rfl) (by simp) ?_
          refine AllReadyH.cons (o := _) rfl (fun K hK => ?_) AllReadyH.nil
          have RF := Lib.hid (lit2i V12 (a : Int) (u : Int) 3)
          have N6_ := Lib.hid (N12_.out.alloc (.cells #[.int .i64 (a : Int), .int .i64 (u : Int)] 3))
          have J := Lib.hid (J.out.new ((New.refl V12).alloc (.cells #[.int .i64 (a : Int), .int .i64 (u : Int)] 3)))
          go_simp
          refine hK.out _ _ (KF.out _ N6_.out) (fun hH6 => ?_)
          clear hK K
          try simp only [Act.put, List.setIfInBounds_toArray, List.set_cons_zero, List.set_cons_succ]
          obtain ⟨bF, hbF⟩ : ∃ b, V12.heap.size = b := ⟨_, rfl⟩
          rw [hbF] at RF ⊢
          generalize V12.alloc (.cells #[.int .i64 (a : Int), .int .i64 (u : Int)] 3) = V6 at RF N6_ J ⊢
          clear hbF
          refine wpAnyH_ready (rs := [7]) (by kernel_rfl) (by simp) ?_
          refine AllReadyH.cons (o := _) rfl (fun K hK => ?_) AllReadyH.nil
          go_simp
          go_at_call 32
          refine (DirtyRoots_ans B1 (some ⟨bF, 0, none⟩) m1 d1 2 2 zs [(a : Int), (u : Int)] (by omega) (by omega) V6 (I1.out.new (HW.out.trans N6_.out)) RF.out).mono ?_
          rintro e w6 ⟨A6, n6, c6, rfl, l6, r6, N6⟩
          rw [RU.out] at l6 r6
          obtain rfl : n6 = 1 := l6.symm
          have R6 := Lib.hid (r6.ints (n := 1) rfl)
          have N7_ := Lib.hid (N6_.out.trans N6)
          have J := Lib.hid (J.out.new N6)
          clear r6 l6 N6
          go_wp2_with fail
          refine hK.out _ _ (KF.out _ N7_.out) (fun hH7 => ?_)
          clear hK K
          try simp only [Act.put, List.setIfInBounds_toArray, List.set_cons_zero, List.set_cons_succ]
          refine wpAnyH_ready (rs := [13]) (by kernel_rfl) (by simp) ?_
          refine AllReadyH.cons (o := _) rfl (fun K hK => ?_) AllReadyH.nil
          go_simp
          go_at_call 15
          refine (equalInts_any _ _ 1 1 _ 1 [(u : Int)] [(u : Int)] (by omega) (by omega) w6 R6.out J.out).mono ?_
          rw [decide_eq_true rfl]
          rintro e w7 ⟨rfl, N7⟩
          have N13_ := Lib.hid (N7_.out.trans N7)
          clear N7
          go_wp2_with fail
          refine hK.out _ _ (KF.out _ N13_.out) (fun hH13 => ?_)
          clear hK K
          try simp only [Act.put, List.setIfInBounds_toArray, List.set_cons_zero, List.set_cons_succ]
          refine wpAnyH_take (i := 14) (oi := _) (v := ?_) rfl (by kernel_rfl) (by kernel_rfl) (by kernel_rfl) (fun _ _ _ h => h) (Or.inl ⟨by rfl, ?_⟩) (by assumption) ?_
          rotate_left; (intro w' hSw; (try dsimp only at hSw); go_split_ands; go_simp; (try with_reducible rfl))
          try simp only [Act.put, List.setIfInBounds_toArray, List.set_cons_zero, List.set_cons_succ]
          refine wpAnyH_done (by kernel_rfl) ?_ _
          refine NoPanic.normal ?_
          go_wp2
          go_roundw
          case rel => exact ⟨j + 1, by omega, by go_num, Lib.hid (HW.out.trans N13_.out)⟩
          case measure => simp [intOf]; omega
      · obtain rfl : np = j := by omega
        have I9 := Lib.hid (I1.out.new HW.out)
        have JA := Lib.hid (Ints.one wr (a : Int) 3)
        have NA := Lib.hid ((New.refl wr).alloc (.cells #[.int .i64 (a : Int)] 3))
        go_wp2_with fail
        refine (DirtyRoots_ans B1 _ m1 d1 1 1 zs [(a : Int)] (by omega) (by omega) _ (I9.out.new NA.out) JA.out).mono ?_
        rintro e w6 ⟨A6, n6, c6, rfl, l6, r6, N6⟩
        rw [R1.out] at l6 r6
        obtain rfl : n6 = 1 := l6.symm
        have R6 := Lib.hid (r6.ints (n := 1) rfl)
        have N6 := Lib.hid (NA.out.trans N6)
        clear l6 r6
        go_wp2_with fail
        refine (equalInts_any _ _ 1 1 _ 1 [(a : Int)] [(a : Int)] (by omega) (by omega) _ (R6.out.new ((New.refl w6).alloc _)) (Ints.one w6 (a : Int) _)).mono ?_
        rw [decide_eq_true rfl]
        rintro e w7 ⟨rfl, N7⟩
        have NZ := Lib.hid (NN.out.trans (HW.out.trans ((N6.out.alloc _).trans N7)))
        go_wp2
        go_ret
        exact ⟨rfl, NZ.out⟩
end Go.Proofs.Ytobnjagmakhgpaa
