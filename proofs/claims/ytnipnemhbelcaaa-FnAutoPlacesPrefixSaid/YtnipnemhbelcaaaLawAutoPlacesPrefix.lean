/- The law FnAutoPlacesPrefix, walked: the places of the first items are the beginning of the places. Condition: the code can be read. -/
import Derived.Test.YtnipnemhbelcaaaDrawAu
import Derived.Test.YtnipnemhbelcaaaAutP
import Derived.Test.YtnipnemhbelcaaaLstQ
import Derived.Test.YtnipnemhbelcaaaAutI
import Derived.Test.YtnipnemhbelcaaaAutS
import Derived.BigQuiet
import Derived.Deep.RegionHeld3
namespace Go.Proofs.Ytnipnemhbelcaaa
open Go.RowKit

set_option maxRecDepth 100000 in
set_option maxHeartbeats 4000000 in
theorem lawAutoPlacesPrefix (A : Option Addr) (n c : Nat) (hn : n ≤ maxLen) (hnc : n ≤ c) (w : World) (hb : Bytes w A n) :
    Calls Try.prog 7 #[.slice A n c] w fun e w' => e = .returned (.bool true) ∧ New w w' := by
  have HB := Lib.hid hb; have HM := Lib.hid hn
  clear hb
  unfold maxLen at hn
  by_cases hbig : 1048576 < n
  · go_enter Try.func7, Try.ntmps7
    go_wp2
    go_ret
    exact ⟨rfl, by (repeat (first | exact New.refl _ | assumption | refine New.alloc ?_ _ | refine New.drew ?_ | refine New.drewN ?_ _ | refine New.setCell ?_ (by first | omega | (simp; omega) | (simp; done)) _ | refine New.trans ?_ (by assumption)))⟩
  have hm : (n : Int) ≤ 1048576 := by omega
  have hm0 : (0 : Int) ≤ (n : Int) := by omega
  go_enter Try.func7, Try.ntmps7
  go_wp2_with fail
  refine (DrawAutoPlaces_any A n c HM.out hnc _ HB.out).mono ?_
  rintro e w1 ⟨B1, m1, d1, ws, cl, rfl, I1, l14, mc, S1, cb, PB, N1a⟩
  have s1 := N1a.le
  have N1 := Lib.hid ((New.refl w).trans N1a); clear N1a
  replace I1 := Lib.hid I1; replace S1 := Lib.hid S1
  obtain ⟨cb0, cb1⟩ := cb
  have y0 : (0 : Int) ≤ (m1 : Int) := by omega
  have y1 : (m1 : Int) ≤ 14 := by omega
  have LY := Lib.hid I1.out.len
  obtain ⟨L, zs, HZ, hL, FS, SN, C1, C2⟩ : ∃ (L : Nat) (zs : List Int), Hid (zs = apA ws cl) ∧ (L = 0 ∨ (L = m1 ∧ apOk ws cl = true)) ∧ Hid (∀ i, i < L → zs.getD (i * 2) 0 = (plc ws cl i).1) ∧ Hid (∀ i, i < L → zs.getD (i * 2 + 1) 0 = (plc ws cl i).2) ∧
      Hid (∀ W, New w1 W → Calls Try.prog 22 #[.slice B1 m1 d1, .int .i64 cl] W fun e w' => ∃ A2, e = .returned (.slice A2 L L) ∧ Prs W.heap.size w'.heap.size w' A2 L zs ∧ New W w') ∧
      Hid (∀ W, New w1 W → Calls Try.prog 24 #[.slice B1 m1 d1, .int .i64 cl] W fun e w' => ∃ A2 c2, e = .returned (.slice A2 L c2) ∧ Prs W.heap.size w'.heap.size w' A2 L zs ∧ New W w') := by
    obtain ⟨L, hL⟩ := apA_even ws cl
    refine ⟨L, apA ws cl, Lib.hid rfl, ?_, Lib.hid fun i hi => ?_, Lib.hid fun i hi => ?_, Lib.hid fun W hW => (AutoPlaces_anyN B1 m1 d1 ws cl (by omega) W (I1.out.new hW)).mono ?_, Lib.hid fun W hW => (SAutoPlaces_any B1 m1 d1 ws cl (by omega) W (I1.out.new hW)).mono ?_⟩
    · unfold apA at hL
      split at hL
      · next h => rw [pairsL_len, LY.out] at hL; exact .inr ⟨by omega, h⟩
      · simp at hL; exact .inl (by omega)
    · unfold apA at hL ⊢
      split
      · next h => rw [if_pos h, pairsL_len] at hL; exact pairsL_fst _ (by omega)
      · next h => rw [if_neg h] at hL; simp at hL; omega
    · unfold apA at hL ⊢
      split
      · next h => rw [if_pos h, pairsL_len] at hL; exact pairsL_snd _ (by omega)
      · next h => rw [if_neg h] at hL; simp at hL; omega
    · rintro e w2 ⟨A2, n2, rfl, l2, p2, N2⟩
      obtain rfl : L = n2 := by omega
      exact ⟨A2, rfl, p2, N2⟩
    · rintro e w2 ⟨A2, n2, c2, rfl, l2, p2, N2⟩
      obtain rfl : L = n2 := by omega
      exact ⟨A2, c2, rfl, p2, N2⟩
  have L0 : (0 : Int) ≤ (L : Int) := by omega
  have L14 : L ≤ 14 := by omega
  have L14' : (L : Int) ≤ 14 := by omega
  by_cases hLm : L = m1
  · subst hLm
    obtain ⟨H, hH⟩ : ∃ H, H = L / 2 := ⟨_, rfl⟩
    have QD : Hid ((L : Int) / 2 = (H : Int)) := Lib.hid (by omega)
    have lt : (ws.take H).length = H := by rw [List.length_take, LY.out]; omega
    obtain ⟨zs2, hz2, HE⟩ : ∃ zs2, apA (ws.take H) cl = zs2 ∧ Hid (∀ i, i < H → zs2.getD (i * 2) 0 = zs.getD (i * 2) 0 ∧ zs2.getD (i * 2 + 1) 0 = zs.getD (i * 2 + 1) 0) := ⟨_, rfl, Lib.hid (fun i hi => by
      have hok : apOk (ws.take H) cl = true := by
        rcases hL with h | ⟨_, h⟩
        · omega
        · obtain ⟨c1, l12, hw⟩ := apOk_iff.1 h
          exact apOk_iff.2 ⟨c1, by rw [lt]; rw [LY.out] at l12; omega, fun z hz => hw z (List.mem_of_mem_take hz)⟩
      unfold apA
      rw [if_pos hok, lt, pairsL_fst _ hi, pairsL_snd _ hi, plc_take ws cl hi, FS.out i (by omega), SN.out i (by omega)]
      exact ⟨rfl, rfl⟩)⟩
    have l2 : zs2.length = H * 2 := by
      rw [← hz2]
      unfold apA
      split
      · rw [pairsL_len, lt]
      · next h =>
        rcases hL with h0 | ⟨_, h1⟩
        · have : H = 0 := by omega
          subst this
          rfl
        · obtain ⟨c1, l12, hw⟩ := apOk_iff.1 h1
          exact absurd (apOk_iff.2 ⟨c1, by rw [lt]; rw [LY.out] at l12; omega, fun z hz => hw z (List.mem_of_mem_take hz)⟩) h
    have C3 : Hid (∀ W, New w1 W → Calls Try.prog 22 #[.slice B1 H d1, .int .i64 cl] W fun e w' => ∃ A2, e = .returned (.slice A2 H H) ∧ Prs W.heap.size w'.heap.size w' A2 H zs2 ∧ New W w') := Lib.hid (fun W hW => (AutoPlaces_anyN B1 H d1 (ws.take H) cl (by omega) W ((I1.out.new hW).first (by omega))).mono (by
      rintro e w2 ⟨A2, n2, rfl, l3, p2, N2⟩
      rw [hz2] at l3 p2
      obtain rfl : H = n2 := by omega
      exact ⟨A2, rfl, p2, N2⟩))
    have H0 : (0 : Int) ≤ (H : Int) := by omega
    have Hc : (H : Int) ≤ (d1 : Int) := by omega
    have Hm : (H : Int) ≤ (L : Int) := by omega
    have mcI : (L : Int) ≤ (d1 : Int) := by omega
    have hHL : H ≤ L := by omega
    have hdd : (d1 : Int) ≤ (d1 : Int) := Int.le_refl _
    have hLL : (L : Int) ≤ (L : Int) := Int.le_refl _
    have hd0 : (0 : Int) ≤ (d1 : Int) := by omega
    have w1_ : IntKind.i64.wrap (H : Int) = (H : Int) := IntWalk.i64_in _ (by omega)
    have w3_ : (H : Int).toNat = H := by omega
    have hHd : H ≤ d1 := by omega
    clear hL HZ hz2 l2 lt FS SN
    go_wp2_with fail
    refine (C1.out _ (New.refl _)).mono ?_
    rintro e w2 ⟨A2, rfl, p2, N2a⟩
    have NA := Lib.hid N2a
    have N2 := Lib.hid (N1.out.trans N2a); clear N2a
    have P2 := Lib.hid p2; clear p2
    go_wp2_with fail
    refine (C2.out _ NA.out).mono ?_
    rintro e w3 ⟨A3, c3, rfl, p3, N3a⟩
    have NB := Lib.hid (NA.out.trans N3a)
    have P2 := Lib.hid (P2.out.new N3a)
    have N3 := Lib.hid (N2.out.trans N3a); clear N3a
    have P3 := Lib.hid p3; clear p3
    go_wp2_with fail
    refine (equalPrs_any _ _ _ _ A2 A3 L L L c3 zs (by omega) rfl _ P2.out P3.out).mono ?_
    rintro e w4 ⟨rfl, N4a⟩
    have NC := Lib.hid (NB.out.trans N4a)
    have P2 := Lib.hid (P2.out.new N4a)
    have N4 := Lib.hid (N3.out.trans N4a); clear N4a P3
    have n4 := N4.out; have nc := NC.out
    rcases Nat.eq_zero_or_pos L with h0 | h0
    · subst h0
      obtain rfl : 0 = H := by omega
      rcases PB with ⟨rfl, _⟩ | ⟨b, off, rfl⟩
      all_goals
        rcases A2 with _ | ad
        all_goals
          go_wp2
          refine wp_region_noPanic ?_
          refine wp_region_held_drew (S := fun _ => True) (by kernel_rfl) trivial (fun hHeld => ?_)
          have ND := Lib.hid (New.refl w4).drew
          refine wpAnyH_take (i := 0) (oi := _) (v := ?_) rfl (by kernel_rfl) (by kernel_rfl) (by kernel_rfl) (fun _ _ _ h => h) (Or.inl ⟨by rfl, ?_⟩) (by assumption) ?_
          rotate_left; (intro w' hSw; (try dsimp only at hSw); go_split_ands; go_simp; (try with_reducible rfl))
          try simp only [Act.put, List.setIfInBounds_toArray, List.set_cons_zero, List.set_cons_succ]
          refine wpAnyH_take (i := 1) (oi := _) (v := ?_) rfl (by kernel_rfl) (by kernel_rfl) (by kernel_rfl) (fun _ _ _ h => h) (Or.inl ⟨by rfl, ?_⟩) (by assumption) ?_
          rotate_left; (intro w' hSw; (try dsimp only at hSw); go_split_ands; go_simp; (try with_reducible rfl))
          try simp only [Act.put, List.setIfInBounds_toArray, List.set_cons_zero, List.set_cons_succ]
          refine wpAnyH_take (i := 2) (oi := _) (v := ?_) rfl (by kernel_rfl) (by kernel_rfl) (by kernel_rfl) (fun _ _ _ h => h) (Or.inl ⟨by rfl, ?_⟩) (by assumption) ?_
          rotate_left; (intro w' hSw; (try dsimp only at hSw); go_split_ands; go_simp; (try with_reducible rfl))
          try simp only [Act.put, List.setIfInBounds_toArray, List.set_cons_zero, List.set_cons_succ]
          refine wpAnyH_take (i := 3) (oi := _) (v := ?_) rfl (by kernel_rfl) (by kernel_rfl) (by kernel_rfl) (fun _ _ _ h => h) (Or.inl ⟨by rfl, ?_⟩) (by assumption) ?_
          rotate_left; (intro w' hSw; (try dsimp only at hSw); go_split_ands; go_simp; (try with_reducible rfl))
          try simp only [Act.put, List.setIfInBounds_toArray, List.set_cons_zero, List.set_cons_succ]
          refine wpAnyH_take (i := 5) (oi := _) (v := ?_) rfl (by kernel_rfl) (by kernel_rfl) (by kernel_rfl) (fun _ _ _ h => h) (Or.inl ⟨by rfl, ?_⟩) (by assumption) ?_
          rotate_left; (intro w' hSw; (try dsimp only at hSw); go_split_ands; go_simp; (try with_reducible rfl))
          try simp only [Act.put, List.setIfInBounds_toArray, List.set_cons_zero, List.set_cons_succ]
          refine wpAnyH_take (i := 6) (oi := _) (v := ?_) rfl (by kernel_rfl) (by kernel_rfl) (by kernel_rfl) (fun _ _ _ h => h) (Or.inl ⟨by rfl, ?_⟩) (by assumption) ?_
          rotate_left; (intro w' hSw; (try dsimp only at hSw); go_split_ands; go_simp; (try with_reducible rfl))
          try simp only [Act.put, List.setIfInBounds_toArray, List.set_cons_zero, List.set_cons_succ]
          refine wpAnyH_take (i := 7) (oi := _) (v := ?_) rfl (by kernel_rfl) (by kernel_rfl) (by kernel_rfl) (fun _ _ _ h => h) (Or.inl ⟨by rfl, ?_⟩) (by assumption) ?_
          rotate_left; (intro w' hSw; (try dsimp only at hSw); go_split_ands; go_simp; (try with_reducible rfl))
          try simp only [Act.put, List.setIfInBounds_toArray, List.set_cons_zero, List.set_cons_succ]
          refine wpAnyH_ready (rs := [4]) (by kernel_rfl) (by simp) ?_
          refine AllReadyH.cons (o := _) rfl (fun K hK => ?_) AllReadyH.nil
          go_simp
          (first | (go_at_call 22; refine (C3.out _ (NC.out.trans ND.out)).mono ?_; rintro e w5 ⟨A5, rfl, p5, N5a⟩; (have P2b := Lib.hid (P2.out.new (ND.out.trans N5a))); (have N5 := Lib.hid (ND.out.trans N5a)); (have P5 := Lib.hid p5); clear p5 N5a) | (go_at_call 23; refine (equalPrs_any _ _ _ _ A5 _ 0 0 _ _ zs2 (by omega) rfl _ P5.out (P2b.out.part (by omega) HE.out)).mono ?_; rintro e w6 ⟨rfl, N6a⟩; (have N6 := Lib.hid (N4.out.trans (N5.out.trans N6a))); clear N6a))
          go_wp2_with fail
          refine hK.out _ _ ?_ (fun hH4 => ?_)
          · (trivial)
          clear hK K
          try simp only [Act.put, List.setIfInBounds_toArray, List.set_cons_zero, List.set_cons_succ]
          refine wpAnyH_ready (rs := [8]) (by kernel_rfl) (by simp) ?_
          refine AllReadyH.cons (o := _) rfl (fun K hK => ?_) AllReadyH.nil
          go_simp
          (first | (go_at_call 22; refine (C3.out _ (NC.out.trans ND.out)).mono ?_; rintro e w5 ⟨A5, rfl, p5, N5a⟩; (have P2b := Lib.hid (P2.out.new (ND.out.trans N5a))); (have N5 := Lib.hid (ND.out.trans N5a)); (have P5 := Lib.hid p5); clear p5 N5a) | (go_at_call 23; refine (equalPrs_any _ _ _ _ A5 _ 0 0 _ _ zs2 (by omega) rfl _ P5.out (P2b.out.part (by omega) HE.out)).mono ?_; rintro e w6 ⟨rfl, N6a⟩; (have N6 := Lib.hid (N4.out.trans (N5.out.trans N6a))); clear N6a))
          go_wp2_with fail
          refine hK.out _ _ ?_ (fun hH8 => ?_)
          · (trivial)
          clear hK K
          try simp only [Act.put, List.setIfInBounds_toArray, List.set_cons_zero, List.set_cons_succ]
          refine wpAnyH_ready (rs := [9]) (by kernel_rfl) (by simp) ?_
          refine AllReadyH.cons (o := _) rfl (fun K hK => ?_) AllReadyH.nil
          go_simp
          refine hK.out _ _ ?_ (fun hH9 => ?_)
          · (trivial)
          clear hK K
          try simp only [Act.put, List.setIfInBounds_toArray, List.set_cons_zero, List.set_cons_succ]
          refine wpAnyH_done (by kernel_rfl) ?_ _
          refine NoPanic.normal ?_
          go_wp2
          go_ret
          exact ⟨rfl, N6.out⟩
    · obtain ⟨g, h, e, _⟩ := P2.out.2 h0
      subst e
      obtain ⟨b, off, rfl⟩ : ∃ b off, B1 = some ⟨b, off, none⟩ := by
        rcases PB with ⟨_, h⟩ | h
        · omega
        · exact h
      clear PB
      go_wp2
      have q0 : (0 : Int) ≤ (L : Int) / 2 := by omega
      have q1 : (L : Int) / 2 ≤ (d1 : Int) := by omega
      have q3 : (L : Int) / 2 ≤ (L : Int) := by omega
      subst hH
      refine wp_region_noPanic ?_
      refine wp_region_held_drew (S := fun _ => True) (by kernel_rfl) trivial (fun hHeld => ?_)
      have ND := Lib.hid (New.refl w4).drew
      refine wpAnyH_take (i := 0) (oi := _) (v := ?_) rfl (by kernel_rfl) (by kernel_rfl) (by kernel_rfl) (fun _ _ _ h => h) (Or.inl ⟨by rfl, ?_⟩) (by assumption) ?_
      rotate_left; (intro w' hSw; (try dsimp only at hSw); go_split_ands; go_simp; (try with_reducible rfl))
      try simp only [Act.put, List.setIfInBounds_toArray, List.set_cons_zero, List.set_cons_succ]
      refine wpAnyH_take (i := 1) (oi := _) (v := ?_) rfl (by kernel_rfl) (by kernel_rfl) (by kernel_rfl) (fun _ _ _ h => h) (Or.inl ⟨by rfl, ?_⟩) (by assumption) ?_
      rotate_left; (intro w' hSw; (try dsimp only at hSw); go_split_ands; go_simp; (try with_reducible rfl))
      try simp only [Act.put, List.setIfInBounds_toArray, List.set_cons_zero, List.set_cons_succ]
      refine wpAnyH_take (i := 2) (oi := _) (v := ?_) rfl (by kernel_rfl) (by kernel_rfl) (by kernel_rfl) (fun _ _ _ h => h) (Or.inl ⟨by rfl, ?_⟩) (by assumption) ?_
      rotate_left; (intro w' hSw; (try dsimp only at hSw); go_split_ands; go_simp; (try with_reducible rfl))
      try simp only [Act.put, List.setIfInBounds_toArray, List.set_cons_zero, List.set_cons_succ]
      refine wpAnyH_take (i := 3) (oi := _) (v := ?_) rfl (by kernel_rfl) (by kernel_rfl) (by kernel_rfl) (fun _ _ _ h => h) (Or.inl ⟨by rfl, ?_⟩) (by assumption) ?_
      rotate_left; (intro w' hSw; (try dsimp only at hSw); go_split_ands; go_simp; (try with_reducible rfl))
      try simp only [Act.put, List.setIfInBounds_toArray, List.set_cons_zero, List.set_cons_succ]
      refine wpAnyH_take (i := 5) (oi := _) (v := ?_) rfl (by kernel_rfl) (by kernel_rfl) (by kernel_rfl) (fun _ _ _ h => h) (Or.inl ⟨by rfl, ?_⟩) (by assumption) ?_
      rotate_left; (intro w' hSw; (try dsimp only at hSw); go_split_ands; go_simp; (try with_reducible rfl))
      try simp only [Act.put, List.setIfInBounds_toArray, List.set_cons_zero, List.set_cons_succ]
      refine wpAnyH_take (i := 6) (oi := _) (v := ?_) rfl (by kernel_rfl) (by kernel_rfl) (by kernel_rfl) (fun _ _ _ h => h) (Or.inl ⟨by rfl, ?_⟩) (by assumption) ?_
      rotate_left; (intro w' hSw; (try dsimp only at hSw); go_split_ands; go_simp; (try with_reducible rfl))
      try simp only [Act.put, List.setIfInBounds_toArray, List.set_cons_zero, List.set_cons_succ]
      refine wpAnyH_take (i := 7) (oi := _) (v := ?_) rfl (by kernel_rfl) (by kernel_rfl) (by kernel_rfl) (fun _ _ _ h => h) (Or.inl ⟨by rfl, ?_⟩) (by assumption) ?_
      rotate_left; (intro w' hSw; (try dsimp only at hSw); go_split_ands; go_simp; (try with_reducible rfl))
      try simp only [Act.put, List.setIfInBounds_toArray, List.set_cons_zero, List.set_cons_succ]
      refine wpAnyH_ready (rs := [4]) (by kernel_rfl) (by simp) ?_
      refine AllReadyH.cons (o := _) rfl (fun K hK => ?_) AllReadyH.nil
      go_simp
      (first | (go_at_call 22; refine (C3.out _ (NC.out.trans ND.out)).mono ?_; rintro e w5 ⟨A5, rfl, p5, N5a⟩; (have P2b := Lib.hid (P2.out.new (ND.out.trans N5a))); (have N5 := Lib.hid (ND.out.trans N5a)); (have P5 := Lib.hid p5); clear p5 N5a) | (go_at_call 23; refine (equalPrs_any _ _ _ _ A5 _ (L / 2) (L / 2) _ _ zs2 (by omega) rfl _ P5.out (P2b.out.part (by omega) HE.out)).mono ?_; rintro e w6 ⟨rfl, N6a⟩; (have N6 := Lib.hid (N4.out.trans (N5.out.trans N6a))); clear N6a))
      go_wp2_with fail
      refine hK.out _ _ ?_ (fun hH4 => ?_)
      · (trivial)
      clear hK K
      try simp only [Act.put, List.setIfInBounds_toArray, List.set_cons_zero, List.set_cons_succ]
      refine wpAnyH_ready (rs := [8]) (by kernel_rfl) (by simp) ?_
      refine AllReadyH.cons (o := _) rfl (fun K hK => ?_) AllReadyH.nil
      go_simp
      (first | (go_at_call 22; refine (C3.out _ (NC.out.trans ND.out)).mono ?_; rintro e w5 ⟨A5, rfl, p5, N5a⟩; (have P2b := Lib.hid (P2.out.new (ND.out.trans N5a))); (have N5 := Lib.hid (ND.out.trans N5a)); (have P5 := Lib.hid p5); clear p5 N5a) | (go_at_call 23; refine (equalPrs_any _ _ _ _ A5 _ (L / 2) (L / 2) _ _ zs2 (by omega) rfl _ P5.out (P2b.out.part (by omega) HE.out)).mono ?_; rintro e w6 ⟨rfl, N6a⟩; (have N6 := Lib.hid (N4.out.trans (N5.out.trans N6a))); clear N6a))
      go_wp2_with fail
      refine hK.out _ _ ?_ (fun hH8 => ?_)
      · (trivial)
      clear hK K
      try simp only [Act.put, List.setIfInBounds_toArray, List.set_cons_zero, List.set_cons_succ]
      refine wpAnyH_ready (rs := [9]) (by kernel_rfl) (by simp) ?_
      refine AllReadyH.cons (o := _) rfl (fun K hK => ?_) AllReadyH.nil
      go_simp
      refine hK.out _ _ ?_ (fun hH9 => ?_)
      · (trivial)
      clear hK K
      try simp only [Act.put, List.setIfInBounds_toArray, List.set_cons_zero, List.set_cons_succ]
      refine wpAnyH_done (by kernel_rfl) ?_ _
      refine NoPanic.normal ?_
      go_wp2
      go_ret
      exact ⟨rfl, N6.out⟩
  · obtain rfl : L = 0 := by rcases hL with h | ⟨h, _⟩; exact h; exact absurd h hLm
    have hne : ((0 : Int) != (m1 : Int)) = true := by simp; omega
    have hne2 : ((0 : Int) == (m1 : Int)) = false := by simp; omega
    clear hL HZ hLm
    go_wp2_with fail
    refine (C1.out _ (New.refl _)).mono ?_
    rintro e w2 ⟨A2, rfl, p2, N2a⟩
    have NA := Lib.hid N2a
    have N2 := Lib.hid (N1.out.trans N2a); clear N2a
    have P2 := Lib.hid p2; clear p2
    go_wp2_with fail
    refine (C2.out _ NA.out).mono ?_
    rintro e w3 ⟨A3, c3, rfl, p3, N3a⟩
    have NB := Lib.hid (NA.out.trans N3a)
    have P2 := Lib.hid (P2.out.new N3a)
    have N3 := Lib.hid (N2.out.trans N3a); clear N3a
    have P3 := Lib.hid p3; clear p3
    go_wp2_with fail
    refine (equalPrs_any _ _ _ _ A2 A3 0 0 0 c3 zs (by omega) rfl _ P2.out P3.out).mono ?_
    rintro e w4 ⟨rfl, N4a⟩
    have NC := Lib.hid (NB.out.trans N4a)
    have P2 := Lib.hid (P2.out.new N4a)
    have N4 := Lib.hid (N3.out.trans N4a); clear N4a P3
    go_wp2_with fail
    refine (C2.out _ NC.out).mono ?_
    rintro e w5 ⟨A5, c5, rfl, p5, N5a⟩
    have P2 := Lib.hid (P2.out.new N5a)
    have N5 := Lib.hid (N4.out.trans N5a); clear N5a
    have P5 := Lib.hid p5; clear p5
    go_wp2_with fail
    refine (equalPrs_any _ _ _ _ A2 A5 0 0 0 c5 zs (by omega) rfl _ P2.out P5.out).mono ?_
    rintro e w6 ⟨rfl, N6a⟩
    have N6 := Lib.hid (N5.out.trans N6a); clear N6a
    go_wp2
    go_ret
    exact ⟨rfl, N6.out⟩
end Go.Proofs.Ytnipnemhbelcaaa
