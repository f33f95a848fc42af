/- The law FnTaskOrderStep, walked: the order of what stays is the rest of the order. Condition: the code can be read. -/
import Derived.Test.YtpkombjmbpgdnaaDrawQu
import Derived.Test.YtpkombjmbpgdnaaHeapE
import Derived.Test.YtpkombjmbpgdnaaHeapV
import Derived.Test.YtpkombjmbpgdnaaTkO
import Derived.Test.YtpkombjmbpgdnaaHeapA
import Derived.Test.YtpkombjmbpgdnaaHeapG
import Derived.IntWalk
namespace Go.Proofs.Ytpkombjmbpgdnaa
open Go.RowKit

set_option maxHeartbeats 4000000 in
theorem lawTaskOrderStep (A : Option Addr) (n c : Nat) (hn : n ≤ maxLen) (hnc : n ≤ c) (w : World) (hb : Bytes w A n) :
    Calls Try.prog 4 #[.slice A n c] w fun e w' => e = .returned (.bool true) ∧ New w w' := by
  have HB := Lib.hid hb; have HM := Lib.hid hn
  clear hb
  unfold maxLen at hn
  by_cases hbig : 1048576 < n
  · go_enter Try.func4, Try.ntmps4
    go_wp2
    go_ret
    exact ⟨rfl, by (repeat (first | exact New.refl _ | assumption | refine New.alloc ?_ _ | refine New.drew ?_ | refine New.drewN ?_ _ | refine New.setCell ?_ (by first | omega | (simp; omega) | (simp; done)) _ | refine New.trans ?_ (by assumption)))⟩
  have hm : (n : Int) ≤ 1048576 := by omega
  have hm0 : (0 : Int) ≤ (n : Int) := by omega
  go_enter Try.func4, Try.ntmps4
  go_wp2_with fail
  refine (DrawTaskOrder_any A n c HM.out hnc _ HB.out).mono ?_
  rintro e w1 ⟨B1, m1, d1, zs, rfl, I1, kd, k11, N1a⟩
  have s1 := N1a.le
  have N1 := Lib.hid ((New.refl w).trans N1a); clear N1a
  replace I1 := Lib.hid I1
  have HL := Lib.hid I1.out.len
  have m11 : (m1 : Int) ≤ 11 := by omega
  have m0 : (0 : Int) ≤ (m1 : Int) := by omega
  by_cases hz : ordA m1 zs = []
  · have HZ := Lib.hid hz
    clear hz
    go_wp2_with fail
    refine (TaskOrder_ansR B1 m1 d1 zs (by omega) _ I1.out).mono ?_
    rintro e w2 ⟨A2, n2, c2, rfl, l2, qcc, r2, N2a⟩
    have s2 := N2a.le
    have I1 := Lib.hid (I1.out.new N2a)
    have N2 := Lib.hid (N1.out.trans N2a); clear N2a
    rw [HZ.out] at l2 r2
    obtain rfl : 0 = n2 := by simpa using l2
    have R2 := Lib.hid r2; clear l2 r2
    go_wp2_with fail
    refine (STaskOrder_ans B1 m1 d1 zs (by omega) _ I1.out).mono ?_
    rintro e w3 ⟨A3, n3, c3, rfl, l3, r3, N3a⟩
    have s3 := N3a.le
    have I1 := Lib.hid (I1.out.new N3a)
    have R2 := Lib.hid (R2.out.new N3a)
    have N3 := Lib.hid (N2.out.trans N3a); clear N3a
    rw [HZ.out] at l3 r3
    obtain rfl : 0 = n3 := by simpa using l3
    have R3 := Lib.hid r3; clear l3 r3
    go_wp2_with fail
    refine (equalInts_any _ _ 0 0 _ _ [] [] (by omega) (by omega) _ (R2.out.ints rfl) (R3.out.ints rfl)).mono ?_
    (rw [decide_eq_true rfl]; rintro e w4 ⟨rfl, N4a⟩)
    have s4 := N4a.le
    have I1 := Lib.hid (I1.out.new N4a)
    have R2 := Lib.hid (R2.out.new N4a)
    have R3 := Lib.hid (R3.out.new N4a)
    have N4 := Lib.hid (N3.out.trans N4a); clear N4a
    go_wp2_with fail
    refine (STaskOrder_ans B1 m1 d1 zs (by omega) _ I1.out).mono ?_
    rintro e w5 ⟨A5, n5, c5, rfl, l5, r5, N5a⟩
    have s5 := N5a.le
    have I1 := Lib.hid (I1.out.new N5a)
    have R2 := Lib.hid (R2.out.new N5a)
    have R3 := Lib.hid (R3.out.new N5a)
    have N5 := Lib.hid (N4.out.trans N5a); clear N5a
    rw [HZ.out] at l5 r5
    obtain rfl : 0 = n5 := by simpa using l5
    have R5 := Lib.hid r5; clear l5 r5
    go_wp2_with fail
    refine (equalInts_any _ _ 0 0 _ _ [] [] (by omega) (by omega) _ (R2.out.ints rfl) (R5.out.ints rfl)).mono ?_
    (rw [decide_eq_true rfl]; rintro e w6 ⟨rfl, N6a⟩)
    have s6 := N6a.le
    have I1 := Lib.hid (I1.out.new N6a)
    have R2 := Lib.hid (R2.out.new N6a)
    have R3 := Lib.hid (R3.out.new N6a)
    have R5 := Lib.hid (R5.out.new N6a)
    have N6 := Lib.hid (N5.out.trans N6a); clear N6a
    go_wp2
    go_ret
    exact ⟨rfl, N6.out⟩
  · have zp : 0 < (ordA m1 zs).length := List.length_pos_iff.2 hz
    have zc := ordA_len m1 zs
    obtain ⟨nz, LZ⟩ : ∃ nz, Hid ((ordA m1 zs).length = nz) := ⟨_, Lib.hid rfl⟩
    have z1 : 1 ≤ nz := by have := LZ.out; omega
    have z8 : nz ≤ 1048576 := by have := LZ.out; omega
    have zi : (1 : Int) ≤ (nz : Int) := by omega
    have zj : (nz : Int) ≤ 1048576 := by omega
    have zb : ((nz : Int) == 0) = false := by simp; omega
    have NE := Lib.hid hz
    clear hz zp zc
    go_wp2_with fail
    refine (TaskOrder_ansR B1 m1 d1 zs (by omega) _ I1.out).mono ?_
    rintro e w2 ⟨A2, n2, c2, rfl, l2, qcc, r2, N2a⟩
    have s2 := N2a.le
    have I1 := Lib.hid (I1.out.new N2a)
    have N2 := Lib.hid (N1.out.trans N2a); clear N2a
    obtain rfl : nz = n2 := by have := LZ.out; omega
    have QC := Lib.hid qcc; clear qcc
    have R2 := Lib.hid r2; clear l2 r2
    go_wp2_with fail
    refine (STaskOrder_ans B1 m1 d1 zs (by omega) _ I1.out).mono ?_
    rintro e w3 ⟨A3, n3, c3, rfl, l3, r3, N3a⟩
    have s3 := N3a.le
    have I1 := Lib.hid (I1.out.new N3a)
    have R2 := Lib.hid (R2.out.new N3a)
    have N3 := Lib.hid (N2.out.trans N3a); clear N3a
    obtain rfl : nz = n3 := by have := LZ.out; omega
    have R3 := Lib.hid r3; clear l3 r3
    go_wp2_with fail
    refine (equalInts_any _ _ nz nz _ _ _ _ (by omega) (by omega) _ (R2.out.ints LZ.out) (R3.out.ints LZ.out)).mono ?_
    (rw [decide_eq_true rfl]; rintro e w4 ⟨rfl, N4a⟩)
    have s4 := N4a.le
    have I1 := Lib.hid (I1.out.new N4a)
    have R2 := Lib.hid (R2.out.new N4a)
    have R3 := Lib.hid (R3.out.new N4a)
    have N4 := Lib.hid (N3.out.trans N4a); clear N4a
    have hv : vtk m1 zs = true := by
      cases h : vtk m1 zs
      · exact absurd (ordA_no h) NE.out
      · rfl
    have EO := Lib.hid (ordA_yes hv)
    obtain rfl : nz = m1 := by have h := LZ.out; rw [EO.out, ordL_len] at h; exact h.symm
    have n10 := (vtk_at hv).1
    obtain ⟨q, rfl⟩ : ∃ q, nz = q + 1 := ⟨nz - 1, by omega⟩
    clear zb zi zj z1 z8 m0 m11
    have zb : ((q : Int) + 1 == 0) = false := by simp; omega
    have EL : Hid (ordL (q + 1) zs = tid zs (nx zs q) :: ordL q (flL (stk zs (nx zs q) (q + 1)))) := Lib.hid rfl
    have sl : (stk zs (nx zs q) (q + 1)).length = q := by have h := stk_one (zs := zs) (m := nx zs q) (q + 1) (Nat.lt_succ_of_le (nx_le zs q)); omega
    have OK : Hid (tkOk (q + 1) zs = true) := Lib.hid (by unfold tkOk; rw [hv]; simp)
    have ES : Hid (tkA (q + 1) zs = flL (stk zs (nx zs q) (q + 1))) := Lib.hid (if_pos OK.out)
    have LP : Hid ((tkA (q + 1) zs).length = q * 3) := Lib.hid (by rw [ES.out, flL_len, sl])
    have LF : Hid ((flL (stk zs (nx zs q) (q + 1))).length = q * 3) := Lib.hid (by rw [flL_len, sl])
    have EQ : Hid (ordA q (flL (stk zs (nx zs q) (q + 1))) = ordL q (flL (stk zs (nx zs q) (q + 1)))) := Lib.hid (ordA_yes (stay_ok hv))
    obtain ⟨S, hS⟩ : ∃ S, flL (stk zs (nx zs q) (q + 1)) = S := ⟨_, rfl⟩
    rw [hS] at EL ES LF EQ
    clear hS sl hv
    go_wp2_with fail
    refine (TakeTask_ansT B1 (q + 1) d1 zs (by omega) _ I1.out).mono ?_
    (rw [OK.out]; rintro e w5 ⟨A5, n5, c5, rfl, l5, r5, N5a⟩)
    have s5 := N5a.le
    have I1 := Lib.hid (I1.out.new N5a)
    have R2 := Lib.hid (R2.out.new N5a)
    have R3 := Lib.hid (R3.out.new N5a)
    have N5 := Lib.hid (N4.out.trans N5a); clear N5a
    obtain rfl : q = n5 := by have := LP.out; omega
    have R5 := Lib.hid r5; clear l5 r5
    replace R5 := Lib.hid (ES.out ▸ R5.out)
    have NN := Lib.hid N5.out
    have TO := Lib.hid (fun X (hX : New w5 X) => TaskOrder_ans A5 q c5 S (by omega) X (Sts.of_res (R5.out.new hX) LF.out))
    have LS : Hid ((ordL q S).length = q) := Lib.hid (ordL_len q S)
    rw [EQ.out] at TO
    rw [EO.out, EL.out] at R2
    obtain ⟨g', e', _, _, RW⟩ := R2.out.2 (by simp)
    subst e'
    have qc := QC.out
    have q1 : (1 : Int) ≤ (q : Int) + 1 := by omega
    have q1c : (1 : Int) ≤ ((q + 1 : Nat) : Int) := by omega
    have q1n : 1 ≤ q + 1 := by omega
    have q0 : (0 : Int) ≤ (q : Int) := by omega
    have ND := Lib.hid (New.refl w5).drew
    have RWH := Lib.hid RW
    clear LZ EL EO NE OK LP RW
    by_cases c1 : c2 = 1
    · obtain rfl : q = 0 := by omega
      subst c1
      have SL := Lib.hid (fun X (_ : New w5 X) => (show Ints X (some ⟨g', 0, none⟩) 0 (ordL 0 S) from ⟨LS.out, fun hq => by omega⟩))
      go_wp2
      refine wp_region_noPanic ?_
      refine wp_region_held_drew (S := fun _ => True) (by kernel_rfl) (trivial) (fun hHeld => ?_)
      generalize w5.drew = Vd at ND hHeld ⊢
      refine wpAnyH_take (i := 0) (oi := _) (v := ?_) rfl (by kernel_rfl) (by kernel_rfl) (by kernel_rfl) (fun _ _ _ h => h) (Or.inl ⟨by kernel_rfl, ?_⟩) (by assumption) ?_
      rotate_left; (intro w' hSw; (try dsimp only at hSw); go_split_ands; go_simp; (try with_reducible rfl))
      try dsimp only [Act.put]
      refine wpAnyH_take (i := 1) (oi := _) (v := ?_) rfl (by kernel_rfl) (by kernel_rfl) (by kernel_rfl) (fun _ _ _ h => h) (Or.inl ⟨by kernel_rfl, ?_⟩) (by assumption) ?_
      rotate_left; (intro w' hSw; (try dsimp only at hSw); go_split_ands; go_simp; (try with_reducible rfl))
      try dsimp only [Act.put]
      refine wpAnyH_take (i := 2) (oi := _) (v := ?_) rfl (by kernel_rfl) (by kernel_rfl) (by kernel_rfl) (fun _ _ _ h => h) (Or.inl ⟨by kernel_rfl, ?_⟩) (by assumption) ?_
      rotate_left; (intro w' hSw; (try dsimp only at hSw); go_split_ands; go_simp; (try with_reducible rfl))
      try dsimp only [Act.put]
      refine wpAnyH_take (i := 4) (oi := _) (v := ?_) rfl (by kernel_rfl) (by kernel_rfl) (by kernel_rfl) (fun _ _ _ h => h) (Or.inl ⟨by kernel_rfl, ?_⟩) (by assumption) ?_
      rotate_left; (intro w' hSw; (try dsimp only at hSw); go_split_ands; go_simp; (try with_reducible rfl))
      try dsimp only [Act.put]
      refine wpAnyH_take (i := 5) (oi := _) (v := ?_) rfl (by kernel_rfl) (by kernel_rfl) (by kernel_rfl) (fun _ _ _ h => h) (Or.inl ⟨by kernel_rfl, ?_⟩) (by assumption) ?_
      rotate_left; (intro w' hSw; (try dsimp only at hSw); go_split_ands; go_simp; (try with_reducible rfl))
      try dsimp only [Act.put]
      refine wpAnyH_ready (rs := [3]) (by kernel_rfl) (by simp) ?_
      refine AllReadyH.cons (o := _) rfl (fun K hK => ?_) AllReadyH.nil
      go_simp
      go_at_call 7
      refine (TO.out Vd ND.out).mono ?_
      rintro e v9 ⟨A9, n9, c9, rfl, l9, r9, N9⟩
      obtain rfl : 0 = n9 := by have := LS.out; omega
      have NT := Lib.hid (ND.out.trans N9)
      have R9 := Lib.hid r9; clear r9 l9 N9
      go_wp2_with fail
      refine hK.out _ _ (trivial) (fun hH3 => ?_)
      clear hK K
      try dsimp only [Act.put]
      refine wpAnyH_ready (rs := [6]) (by kernel_rfl) (by simp) ?_
      refine AllReadyH.cons (o := _) rfl (fun K hK => ?_) AllReadyH.nil
      go_simp
      go_at_call 8
      refine (equalInts_any _ _ 0 0 _ _ _ _ (by omega) (by omega) _ (R9.out.ints LS.out) (SL.out _ NT.out)).mono ?_
      rw [decide_eq_true rfl]
      rintro e v10 ⟨rfl, N10⟩
      have NE2 := Lib.hid (NT.out.trans N10)
      clear N10
      go_wp2_with fail
      refine hK.out _ _ (trivial) (fun hH6 => ?_)
      clear hK K
      try dsimp only [Act.put]
      refine wpAnyH_take (i := 7) (oi := _) (v := ?_) rfl (by kernel_rfl) (by kernel_rfl) (by kernel_rfl) (fun _ _ _ h => h) (Or.inl ⟨by kernel_rfl, ?_⟩) (by assumption) ?_
      rotate_left; (intro w' hSw; (try dsimp only at hSw); go_split_ands; go_simp; (try with_reducible rfl))
      try dsimp only [Act.put]
      refine wpAnyH_ready (rs := [8]) (by kernel_rfl) (by simp) ?_
      refine AllReadyH.cons (o := _) rfl (fun K hK => ?_) AllReadyH.nil
      go_simp
      refine hK.out _ _ (trivial) (fun hH8 => ?_)
      clear hK K
      try dsimp only [Act.put]
      refine wpAnyH_done (by kernel_rfl) ?_ _
      refine NoPanic.normal ?_
      go_simp
      go_wp2
      go_ret
      exact ⟨by first | rfl | (go_simp; done) | simp, NN.out.trans NE2.out⟩
    · have SL := Lib.hid (fun X (hX : New w5 X) => (show Ints X (some ⟨g', 1, none⟩) q (ordL q S) from ⟨LS.out, fun hq => ⟨g', 1, rfl, Nat.lt_of_lt_of_le RWH.out.lt hX.le, fun i hi => (hX.cells g' _ RWH.out.lt).trans (by
        have h := RWH.out.c (i + 1) (by simp [LS.out]; omega)
        rw [Nat.add_comm 1 i, h]
        rfl)⟩⟩))
      go_wp2
      refine wp_region_noPanic ?_
      refine wp_region_held_drew (S := fun _ => True) (by kernel_rfl) (trivial) (fun hHeld => ?_)
      generalize w5.drew = Vd at ND hHeld ⊢
      refine wpAnyH_take (i := 0) (oi := _) (v := ?_) rfl (by kernel_rfl) (by kernel_rfl) (by kernel_rfl) (fun _ _ _ h => h) (Or.inl ⟨by kernel_rfl, ?_⟩) (by assumption) ?_
      rotate_left; (intro w' hSw; (try dsimp only at hSw); go_split_ands; go_simp; (try with_reducible rfl))
      try dsimp only [Act.put]
      refine wpAnyH_take (i := 1) (oi := _) (v := ?_) rfl (by kernel_rfl) (by kernel_rfl) (by kernel_rfl) (fun _ _ _ h => h) (Or.inl ⟨by kernel_rfl, ?_⟩) (by assumption) ?_
      rotate_left; (intro w' hSw; (try dsimp only at hSw); go_split_ands; go_simp; (try with_reducible rfl))
      try dsimp only [Act.put]
      refine wpAnyH_take (i := 2) (oi := _) (v := ?_) rfl (by kernel_rfl) (by kernel_rfl) (by kernel_rfl) (fun _ _ _ h => h) (Or.inl ⟨by kernel_rfl, ?_⟩) (by assumption) ?_
      rotate_left; (intro w' hSw; (try dsimp only at hSw); go_split_ands; go_simp; (try with_reducible rfl))
      try dsimp only [Act.put]
      refine wpAnyH_take (i := 4) (oi := _) (v := ?_) rfl (by kernel_rfl) (by kernel_rfl) (by kernel_rfl) (fun _ _ _ h => h) (Or.inl ⟨by kernel_rfl, ?_⟩) (by assumption) ?_
      rotate_left; (intro w' hSw; (try dsimp only at hSw); go_split_ands; go_simp; (try with_reducible rfl))
      try dsimp only [Act.put]
      refine wpAnyH_take (i := 5) (oi := _) (v := ?_) rfl (by kernel_rfl) (by kernel_rfl) (by kernel_rfl) (fun _ _ _ h => h) (Or.inl ⟨by kernel_rfl, ?_⟩) (by assumption) ?_
      rotate_left; (intro w' hSw; (try dsimp only at hSw); go_split_ands; go_simp; (try with_reducible rfl))
      try dsimp only [Act.put]
      refine wpAnyH_ready (rs := [3]) (by kernel_rfl) (by simp) ?_
      refine AllReadyH.cons (o := _) rfl (fun K hK => ?_) AllReadyH.nil
      go_simp
      go_at_call 7
      refine (TO.out Vd ND.out).mono ?_
      rintro e v9 ⟨A9, n9, c9, rfl, l9, r9, N9⟩
      obtain rfl : q = n9 := by have := LS.out; omega
      have NT := Lib.hid (ND.out.trans N9)
      have R9 := Lib.hid r9; clear r9 l9 N9
      go_wp2_with fail
      refine hK.out _ _ (trivial) (fun hH3 => ?_)
      clear hK K
      try dsimp only [Act.put]
      refine wpAnyH_ready (rs := [6]) (by kernel_rfl) (by simp) ?_
      refine AllReadyH.cons (o := _) rfl (fun K hK => ?_) AllReadyH.nil
      go_simp
      go_at_call 8
      refine (equalInts_any _ _ q q _ _ _ _ (by omega) (by omega) _ (R9.out.ints LS.out) (SL.out _ NT.out)).mono ?_
      rw [decide_eq_true rfl]
      rintro e v10 ⟨rfl, N10⟩
      have NE2 := Lib.hid (NT.out.trans N10)
      clear N10
      go_wp2_with fail
      refine hK.out _ _ (trivial) (fun hH6 => ?_)
      clear hK K
      try dsimp only [Act.put]
      refine wpAnyH_take (i := 7) (oi := _) (v := ?_) rfl (by kernel_rfl) (by kernel_rfl) (by kernel_rfl) (fun _ _ _ h => h) (Or.inl ⟨by kernel_rfl, ?_⟩) (by assumption) ?_
      rotate_left; (intro w' hSw; (try dsimp only at hSw); go_split_ands; go_simp; (try with_reducible rfl))
      try dsimp only [Act.put]
      refine wpAnyH_ready (rs := [8]) (by kernel_rfl) (by simp) ?_
      refine AllReadyH.cons (o := _) rfl (fun K hK => ?_) AllReadyH.nil
      go_simp
      refine hK.out _ _ (trivial) (fun hH8 => ?_)
      clear hK K
      try dsimp only [Act.put]
      refine wpAnyH_done (by kernel_rfl) ?_ _
      refine NoPanic.normal ?_
      go_simp
      go_wp2
      go_ret
      exact ⟨by first | rfl | (go_simp; done) | simp, NN.out.trans NE2.out⟩
end Go.Proofs.Ytpkombjmbpgdnaa
