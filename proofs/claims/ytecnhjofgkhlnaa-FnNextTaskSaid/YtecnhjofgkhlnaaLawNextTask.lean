/- The law FnNextTask, walked: the next task is the one that no other is sooner than. Condition: the code can be read. -/
import Derived.Test.YtecnhjofgkhlnaaDrawQu
import Derived.Test.YtecnhjofgkhlnaaHeapN
import Derived.IntWalk
namespace Go.Proofs.Ytecnhjofgkhlnaa
open Go.RowKit

set_option maxHeartbeats 4000000 in
theorem lawNextTask (A : Option Addr) (n c : Nat) (hn : n ≤ maxLen) (hnc : n ≤ c) (w : World) (hb : Bytes w A n) :
    Calls Try.prog 8 #[.slice A n c] w fun e w' => e = .returned (.bool true) ∧ New w w' := by
  have HB := Lib.hid hb; have HM := Lib.hid hn
  clear hb
  unfold maxLen at hn
  by_cases hbig : 1048576 < n
  · go_enter Try.func8, Try.ntmps8
    go_wp2
    go_ret
    exact ⟨rfl, by (repeat (first | exact New.refl _ | assumption | refine New.alloc ?_ _ | refine New.drew ?_ | refine New.drewN ?_ _ | refine New.setCell ?_ (by first | omega | (simp; omega) | (simp; done)) _ | refine New.trans ?_ (by assumption)))⟩
  have hm : (n : Int) ≤ 1048576 := by omega
  have hm0 : (0 : Int) ≤ (n : Int) := by omega
  go_enter Try.func8, Try.ntmps8
  go_wp2_with fail
  refine (DrawNextTask_any A n c HM.out hnc _ HB.out).mono ?_
  rintro e w1 ⟨B1, m1, d1, zs, rfl, I1, kd, k11, N1a⟩
  have s1 := N1a.le
  have N1 := Lib.hid ((New.refl w).trans N1a); clear N1a
  have HL := Lib.hid I1.len
  have m11 : (m1 : Int) ≤ 11 := by omega
  have m0 : (0 : Int) ≤ (m1 : Int) := by omega
  replace I1 := Lib.hid I1
  by_cases hv : vtk m1 zs = true ∧ 0 < m1
  · obtain ⟨hv, h0⟩ := hv
    have EA : Hid (nxA m1 zs = tid zs (nx zs (m1 - 1))) := Lib.hid (if_pos ⟨hv, h0⟩)
    obtain ⟨p, hp⟩ : ∃ p, nx zs (m1 - 1) = p := ⟨_, rfl⟩
    have pm : p < m1 := by have := nx_le zs (m1 - 1); omega
    have MIN := Lib.hid (fun k (hk : k < m1) => (show leK (tkOf zs p) (tkOf zs k) by have h := nx_min zs (m1 - 1) k (by omega); rw [hp] at h; exact h))
    rw [hp] at EA
    have VTK := Lib.hid (vtk_at hv).2
    have IDS := Lib.hid (fun k (hk : k < m1) (hne : k ≠ p) => (show tid zs k ≠ tid zs p by
      rcases Nat.lt_or_ge k p with h | h
      · have := ((vtk_at hv).2 p pm).2 k h; omega
      · have := ((vtk_at hv).2 k hk).2 p (by omega); omega))
    have id0 : 0 ≤ tid zs p := (VTK.out p pm).1.1.1
    have BD := Lib.hid (fun k (hk : k < m1) => (VTK.out k hk).1.2)
    obtain ⟨z, hz⟩ : ∃ z, tid zs p = z := ⟨_, rfl⟩
    rw [hz] at EA IDS id0
    have ZE := Lib.hid hz
    clear hv hp hz
    go_wp2_with fail
    refine (NextTask_any B1 m1 d1 zs (by omega) _ I1.out).mono ?_
    rw [EA.out]
    rintro e w2 ⟨rfl, N2a⟩
    have s2 := N2a.le
    have I1 := Lib.hid (I1.out.new N2a)
    have N2 := Lib.hid (N1.out.trans N2a); clear N2a
    go_wp2_with fail
    refine (SNextTask_any B1 m1 d1 zs (by omega) _ I1.out).mono ?_
    rw [EA.out]
    rintro e w3 ⟨rfl, N3a⟩
    have s3 := N3a.le
    have I1 := Lib.hid (I1.out.new N3a)
    have N3 := Lib.hid (N2.out.trans N3a); clear N3a
    obtain ⟨b, off, rfl, hb, hc⟩ := I1.out.at_ (by omega)
    have HC := Lib.hid (fun k (hk : k < m1) X (hX : New w3 X) => (show X.cell? ⟨b, off + k * 3, none⟩ = some (.int .i64 (tid zs k)) ∧ X.cell? ⟨b, off + k * 3 + 1, none⟩ = some (.int .i64 (trk zs k)) ∧ X.cell? ⟨b, off + k * 3 + 2, none⟩ = some (.int .i64 (tag zs k)) from ⟨(hX.cells b _ hb).trans (hc (k * 3) (by omega)), (hX.cells b _ hb).trans (hc (k * 3 + 1) (by omega)), (hX.cells b _ hb).trans (hc (k * 3 + 2) (by omega))⟩))
    have NN := Lib.hid N3.out
    clear hc hb
    go_wp2
    go_loopw [5, 6] (fun v i wr => ∃ k : Nat, k ≤ m1 ∧ i = .int .i64 k ∧ v = .int .i64 (if p < k then trk zs p - 4 * tag zs p else 0) ∧ Hid (New w3 wr)) (fun _ i _ => m1 - (intOf i).toNat)
    case atStart => exact ⟨0, Nat.zero_le _, rfl, by rw [if_neg (by omega)], Lib.hid (New.refl _)⟩
    case round =>
      obtain ⟨k, hk, rfl, rfl, HN⟩ := hrel
      have k0 : (0 : Int) ≤ (k : Int) := by omega
      by_cases hlt : k < m1
      · have k1 : (k : Int) < (m1 : Int) := by omega
        by_cases hkp : k = p
        · subst hkp
          rw [if_neg (show ¬ k < k by omega)]
          have ES : Hid ((if k < k + 1 then trk zs k - 4 * tag zs k else 0) = trk zs k - 4 * tag zs k) := Lib.hid (if_pos (by omega))
          obtain ⟨⟨r0, r1⟩, a0, a1⟩ := BD.out k pm
          have r0' : 0 ≤ trk zs k := r0
          have r1' : trk zs k ≤ 50 := r1
          have a0' : 0 ≤ tag zs k := a0
          have a1' : tag zs k ≤ 20 := a1
          clear r0 r1 a0 a1
          obtain ⟨g0, g1, g2⟩ := HC.out k pm wr HN.out
          rw [ZE.out] at g0
          have CC := Lib.hid (fun X (hX : New w3 X) => (HC.out k pm X hX).2)
          generalize trk zs k = r at *
          generalize tag zs k = a at *
          have w1' : IntKind.i64.wrap (4 * a) = 4 * a := IntWalk.i64_in _ (by omega)
          have w2' : IntKind.i64.wrap (r - 4 * a) = r - 4 * a := IntWalk.i64_in _ (by omega)
          go_wp2
          clear g0 g1 g2
          have ND := Lib.hid HN.out.drew
          refine wp_region_noPanic ?_
          refine wp_region_held_drew (S := fun w' => w'.cell? ⟨b, off + k * 3 + 1, none⟩ = some (.int .i64 r) ∧ w'.cell? ⟨b, off + k * 3 + 2, none⟩ = some (.int .i64 a)) (by kernel_rfl) (CC.out _ ND.out) (fun hHeld => ?_)
          refine wpAnyH_take (i := 0) (oi := _) (v := ?_) rfl (by kernel_rfl) (by kernel_rfl) (by kernel_rfl) (fun _ _ _ h => h) (Or.inl ⟨by kernel_rfl, ?_⟩) (by assumption) ?_
          rotate_left; (intro w' hSw; (try dsimp only at hSw); go_split_ands; go_simp; (try with_reducible rfl))
          try dsimp only [Act.put]
          refine wpAnyH_take (i := 1) (oi := _) (v := ?_) rfl (by kernel_rfl) (by kernel_rfl) (by kernel_rfl) (fun _ _ _ h => h) (Or.inl ⟨by kernel_rfl, ?_⟩) (by assumption) ?_
          rotate_left; (intro w' hSw; (try dsimp only at hSw); go_split_ands; go_simp; (try with_reducible rfl))
          try dsimp only [Act.put]
          refine wpAnyH_take (i := 2) (oi := _) (v := ?_) rfl (by kernel_rfl) (by kernel_rfl) (by kernel_rfl) (fun _ _ _ h => h) (Or.inl ⟨by kernel_rfl, ?_⟩) (by assumption) ?_
          rotate_left; (intro w' hSw; (try dsimp only at hSw); go_split_ands; go_simp; (try with_reducible rfl))
          try dsimp only [Act.put]
          refine wpAnyH_take (i := 3) (oi := _) (v := ?_) rfl (by kernel_rfl) (by kernel_rfl) (by kernel_rfl) (fun _ _ _ h => h) (Or.inl ⟨by kernel_rfl, ?_⟩) (by assumption) ?_
          rotate_left; (intro w' hSw; (try dsimp only at hSw); go_split_ands; go_simp; (try with_reducible rfl))
          try dsimp only [Act.put]
          refine wpAnyH_take (i := 4) (oi := _) (v := ?_) rfl (by kernel_rfl) (by kernel_rfl) (by kernel_rfl) (fun _ _ _ h => h) (Or.inl ⟨by kernel_rfl, ?_⟩) (by assumption) ?_
          rotate_left; (intro w' hSw; (try dsimp only at hSw); go_split_ands; go_simp; (try with_reducible rfl))
          try dsimp only [Act.put]
          refine wpAnyH_take (i := 5) (oi := _) (v := ?_) rfl (by kernel_rfl) (by kernel_rfl) (by kernel_rfl) (fun _ _ _ h => h) (Or.inl ⟨by kernel_rfl, ?_⟩) (by assumption) ?_
          rotate_left; (intro w' hSw; (try dsimp only at hSw); go_split_ands; go_simp; (try with_reducible rfl))
          try dsimp only [Act.put]
          refine wpAnyH_take (i := 6) (oi := _) (v := ?_) rfl (by kernel_rfl) (by kernel_rfl) (by kernel_rfl) (fun _ _ _ h => h) (Or.inl ⟨by kernel_rfl, ?_⟩) (by assumption) ?_
          rotate_left; (intro w' hSw; (try dsimp only at hSw); go_split_ands; go_simp; (try with_reducible rfl))
          try dsimp only [Act.put]
          refine wpAnyH_take (i := 7) (oi := _) (v := ?_) rfl (by kernel_rfl) (by kernel_rfl) (by kernel_rfl) (fun _ _ _ h => h) (Or.inl ⟨by kernel_rfl, ?_⟩) (by assumption) ?_
          rotate_left; (intro w' hSw; (try dsimp only at hSw); go_split_ands; go_simp; (try with_reducible rfl))
          try dsimp only [Act.put]
          refine wpAnyH_take (i := 8) (oi := _) (v := ?_) rfl (by kernel_rfl) (by kernel_rfl) (by kernel_rfl) (fun _ _ _ h => h) (Or.inl ⟨by kernel_rfl, ?_⟩) (by assumption) ?_
          rotate_left; (intro w' hSw; (try dsimp only at hSw); go_split_ands; go_simp; (try with_reducible rfl))
          try dsimp only [Act.put]
          refine wpAnyH_take (i := 9) (oi := _) (v := ?_) rfl (by kernel_rfl) (by kernel_rfl) (by kernel_rfl) (fun _ _ _ h => h) (Or.inl ⟨by kernel_rfl, ?_⟩) (by assumption) ?_
          rotate_left; (intro w' hSw; (try dsimp only at hSw); go_split_ands; go_simp; (try with_reducible rfl))
          try dsimp only [Act.put]
          refine wpAnyH_take (i := 10) (oi := _) (v := ?_) rfl (by kernel_rfl) (by kernel_rfl) (by kernel_rfl) (fun _ _ _ h => h) (Or.inl ⟨by kernel_rfl, ?_⟩) (by assumption) ?_
          rotate_left; (intro w' hSw; (try dsimp only at hSw); go_split_ands; go_simp; (try with_reducible rfl))
          try dsimp only [Act.put]
          refine wpAnyH_take (i := 11) (oi := _) (v := ?_) rfl (by kernel_rfl) (by kernel_rfl) (by kernel_rfl) (fun _ _ _ h => h) (Or.inl ⟨by kernel_rfl, ?_⟩) (by assumption) ?_
          rotate_left; (intro w' hSw; (try dsimp only at hSw); go_split_ands; go_simp; (try with_reducible rfl))
          try dsimp only [Act.put]
          refine wpAnyH_ready (rs := [12]) (by kernel_rfl) (by simp) ?_
          refine AllReadyH.cons (o := _) rfl (fun K hK => ?_) AllReadyH.nil
          go_simp
          refine hK.out _ _ (CC.out _ ND.out) (fun hH12 => ?_)
          clear hK K
          try dsimp only [Act.put]
          refine wpAnyH_done (by kernel_rfl) ?_ _
          refine NoPanic.normal ?_
          go_simp
          go_wp2
          go_roundw
          case rel => exact ⟨k + 1, by omega, by go_num, by rw [ES.out], ND⟩
          case measure => simp [intOf]; omega
        · have ES : Hid ((if p < k + 1 then trk zs p - 4 * tag zs p else 0) = if p < k then trk zs p - 4 * tag zs p else 0) := Lib.hid (by
            by_cases h : p < k
            · rw [if_pos h, if_pos (by omega)]
            · rw [if_neg h, if_neg (by omega)])
          obtain ⟨g0, g1, g2⟩ := HC.out k hlt wr HN.out
          have ne := IDS.out k hlt hkp
          have nb : (tid zs k == z) = false := by simpa using ne
          clear ne
          generalize (if p < k then trk zs p - 4 * tag zs p else 0) = v at *
          generalize tid zs k = u at *
          go_wp2
          go_roundw
          case rel => exact ⟨k + 1, by omega, by go_num, by rw [ES.out], HN⟩
          case measure => simp [intOf]; omega
      · obtain rfl : m1 = k := by omega
        rw [if_pos pm]
        have KY := Lib.hid (fun k (hk : k < m1) => (show (trk zs p - 4 * tag zs p < trk zs k - 4 * tag zs k) ∨ (trk zs p - 4 * tag zs p = trk zs k - 4 * tag zs k ∧ z ≤ tid zs k) by
          have h := MIN.out k hk
          rw [← ZE.out]
          exact h))
        have BB := BD.out p pm
        have BB0 : (0 ≤ trk zs p ∧ trk zs p ≤ 50) ∧ 0 ≤ tag zs p ∧ tag zs p ≤ 20 := BB
        obtain ⟨q, hq⟩ : ∃ q, trk zs p - 4 * tag zs p = q := ⟨_, rfl⟩
        rw [hq] at KY ⊢
        clear hq BB BB0 ZE IDS MIN VTK EA
        have HNW := HN
        clear HN
        generalize hwr : wr = wo at *
        clear hwr
        go_wp2
        go_loopw [7] (fun i wr => ∃ k : Nat, k ≤ m1 ∧ i = .int .i64 k ∧ Hid (New w3 wr)) (fun i _ => m1 - (intOf i).toNat)
        case atStart => exact ⟨0, Nat.zero_le _, rfl, HNW⟩
        case round =>
          obtain ⟨k, hk, rfl, HN⟩ := hrel
          have k0 : (0 : Int) ≤ (k : Int) := by omega
          by_cases hlt : k < m1
          · have k1 : (k : Int) < (m1 : Int) := by omega
            obtain ⟨⟨r0, r1⟩, a0, a1⟩ := BD.out k hlt
            have r0' : 0 ≤ trk zs k := r0
            have r1' : trk zs k ≤ 50 := r1
            have a0' : 0 ≤ tag zs k := a0
            have a1' : tag zs k ≤ 20 := a1
            clear r0 r1 a0 a1
            have CC := Lib.hid (fun X (hX : New w3 X) => (HC.out k hlt X hX).2)
            have C0 := Lib.hid (fun X (hX : New w3 X) => (HC.out k hlt X hX).1)
            have ky := KY.out k hlt
            generalize trk zs k = r at *
            generalize tag zs k = a at *
            generalize tid zs k = u at *
            have w1' : IntKind.i64.wrap (4 * a) = 4 * a := IntWalk.i64_in _ (by omega)
            have w2' : IntKind.i64.wrap (r - 4 * a) = r - 4 * a := IntWalk.i64_in _ (by omega)
            have ND := Lib.hid HN.out.drew
            by_cases he : q < r - 4 * a
            · have l1 : ¬ (r - 4 * a) < q := by omega
              have l2 : ((r - 4 * a) == q) = false := by simp; omega
              clear ky he
              go_wp2
              refine wp_region_noPanic ?_
              refine wp_region_held_drew (S := fun w' => w'.cell? ⟨b, off + k * 3 + 1, none⟩ = some (.int .i64 r) ∧ w'.cell? ⟨b, off + k * 3 + 2, none⟩ = some (.int .i64 a)) (by kernel_rfl) (CC.out _ ND.out) (fun hHeld => ?_)
              refine wpAnyH_take (i := 0) (oi := _) (v := ?_) rfl (by kernel_rfl) (by kernel_rfl) (by kernel_rfl) (fun _ _ _ h => h) (Or.inl ⟨by kernel_rfl, ?_⟩) (by assumption) ?_
              rotate_left; (intro w' hSw; (try dsimp only at hSw); go_split_ands; go_simp; (try with_reducible rfl))
              try dsimp only [Act.put]
              refine wpAnyH_take (i := 1) (oi := _) (v := ?_) rfl (by kernel_rfl) (by kernel_rfl) (by kernel_rfl) (fun _ _ _ h => h) (Or.inl ⟨by kernel_rfl, ?_⟩) (by assumption) ?_
              rotate_left; (intro w' hSw; (try dsimp only at hSw); go_split_ands; go_simp; (try with_reducible rfl))
              try dsimp only [Act.put]
              refine wpAnyH_take (i := 2) (oi := _) (v := ?_) rfl (by kernel_rfl) (by kernel_rfl) (by kernel_rfl) (fun _ _ _ h => h) (Or.inl ⟨by kernel_rfl, ?_⟩) (by assumption) ?_
              rotate_left; (intro w' hSw; (try dsimp only at hSw); go_split_ands; go_simp; (try with_reducible rfl))
              try dsimp only [Act.put]
              refine wpAnyH_take (i := 3) (oi := _) (v := ?_) rfl (by kernel_rfl) (by kernel_rfl) (by kernel_rfl) (fun _ _ _ h => h) (Or.inl ⟨by kernel_rfl, ?_⟩) (by assumption) ?_
              rotate_left; (intro w' hSw; (try dsimp only at hSw); go_split_ands; go_simp; (try with_reducible rfl))
              try dsimp only [Act.put]
              refine wpAnyH_take (i := 4) (oi := _) (v := ?_) rfl (by kernel_rfl) (by kernel_rfl) (by kernel_rfl) (fun _ _ _ h => h) (Or.inl ⟨by kernel_rfl, ?_⟩) (by assumption) ?_
              rotate_left; (intro w' hSw; (try dsimp only at hSw); go_split_ands; go_simp; (try with_reducible rfl))
              try dsimp only [Act.put]
              refine wpAnyH_take (i := 5) (oi := _) (v := ?_) rfl (by kernel_rfl) (by kernel_rfl) (by kernel_rfl) (fun _ _ _ h => h) (Or.inl ⟨by kernel_rfl, ?_⟩) (by assumption) ?_
              rotate_left; (intro w' hSw; (try dsimp only at hSw); go_split_ands; go_simp; (try with_reducible rfl))
              try dsimp only [Act.put]
              refine wpAnyH_take (i := 6) (oi := _) (v := ?_) rfl (by kernel_rfl) (by kernel_rfl) (by kernel_rfl) (fun _ _ _ h => h) (Or.inl ⟨by kernel_rfl, ?_⟩) (by assumption) ?_
              rotate_left; (intro w' hSw; (try dsimp only at hSw); go_split_ands; go_simp; (try with_reducible rfl))
              try dsimp only [Act.put]
              refine wpAnyH_take (i := 7) (oi := _) (v := ?_) rfl (by kernel_rfl) (by kernel_rfl) (by kernel_rfl) (fun _ _ _ h => h) (Or.inl ⟨by kernel_rfl, ?_⟩) (by assumption) ?_
              rotate_left; (intro w' hSw; (try dsimp only at hSw); go_split_ands; go_simp; (try with_reducible rfl))
              try dsimp only [Act.put]
              refine wpAnyH_take (i := 8) (oi := _) (v := ?_) rfl (by kernel_rfl) (by kernel_rfl) (by kernel_rfl) (fun _ _ _ h => h) (Or.inl ⟨by kernel_rfl, ?_⟩) (by assumption) ?_
              rotate_left; (intro w' hSw; (try dsimp only at hSw); go_split_ands; go_simp; (try with_reducible rfl))
              try dsimp only [Act.put]
              refine wpAnyH_take (i := 9) (oi := _) (v := ?_) rfl (by kernel_rfl) (by kernel_rfl) (by kernel_rfl) (fun _ _ _ h => h) (Or.inl ⟨by kernel_rfl, ?_⟩) (by assumption) ?_
              rotate_left; (intro w' hSw; (try dsimp only at hSw); go_split_ands; go_simp; (try with_reducible rfl))
              try dsimp only [Act.put]
              refine wpAnyH_take (i := 10) (oi := _) (v := ?_) rfl (by kernel_rfl) (by kernel_rfl) (by kernel_rfl) (fun _ _ _ h => h) (Or.inl ⟨by kernel_rfl, ?_⟩) (by assumption) ?_
              rotate_left; (intro w' hSw; (try dsimp only at hSw); go_split_ands; go_simp; (try with_reducible rfl))
              try dsimp only [Act.put]
              refine wpAnyH_take (i := 11) (oi := _) (v := ?_) rfl (by kernel_rfl) (by kernel_rfl) (by kernel_rfl) (fun _ _ _ h => h) (Or.inl ⟨by kernel_rfl, ?_⟩) (by assumption) ?_
              rotate_left; (intro w' hSw; (try dsimp only at hSw); go_split_ands; go_simp; (try with_reducible rfl))
              try dsimp only [Act.put]
              refine wpAnyH_ready (rs := [12]) (by kernel_rfl) (by simp) ?_
              refine AllReadyH.cons (o := _) rfl (fun K hK => ?_) AllReadyH.nil
              go_simp
              refine hK.out _ _ (CC.out _ ND.out) (fun hH12 => ?_)
              clear hK K
              try dsimp only [Act.put]
              refine wpAnyH_done (by kernel_rfl) ?_ _
              refine NoPanic.normal ?_
              go_simp
              go_wp2
              go_roundw
              case rel => exact ⟨k + 1, by omega, by go_num, ND⟩
              case measure => simp [intOf]; omega
            · have ue : r - 4 * a = q := by omega
              have zu : ¬ u < z := by omega
              subst ue
              clear ky he
              have g0 := C0.out _ ND.out
              go_wp2
              refine wp_region_noPanic ?_
              refine wp_region_held_drew (S := fun w' => w'.cell? ⟨b, off + k * 3 + 1, none⟩ = some (.int .i64 r) ∧ w'.cell? ⟨b, off + k * 3 + 2, none⟩ = some (.int .i64 a)) (by kernel_rfl) (CC.out _ ND.out) (fun hHeld => ?_)
              refine wpAnyH_take (i := 0) (oi := _) (v := ?_) rfl (by kernel_rfl) (by kernel_rfl) (by kernel_rfl) (fun _ _ _ h => h) (Or.inl ⟨by kernel_rfl, ?_⟩) (by assumption) ?_
              rotate_left; (intro w' hSw; (try dsimp only at hSw); go_split_ands; go_simp; (try with_reducible rfl))
              try dsimp only [Act.put]
              refine wpAnyH_take (i := 1) (oi := _) (v := ?_) rfl (by kernel_rfl) (by kernel_rfl) (by kernel_rfl) (fun _ _ _ h => h) (Or.inl ⟨by kernel_rfl, ?_⟩) (by assumption) ?_
              rotate_left; (intro w' hSw; (try dsimp only at hSw); go_split_ands; go_simp; (try with_reducible rfl))
              try dsimp only [Act.put]
              refine wpAnyH_take (i := 2) (oi := _) (v := ?_) rfl (by kernel_rfl) (by kernel_rfl) (by kernel_rfl) (fun _ _ _ h => h) (Or.inl ⟨by kernel_rfl, ?_⟩) (by assumption) ?_
              rotate_left; (intro w' hSw; (try dsimp only at hSw); go_split_ands; go_simp; (try with_reducible rfl))
              try dsimp only [Act.put]
              refine wpAnyH_take (i := 3) (oi := _) (v := ?_) rfl (by kernel_rfl) (by kernel_rfl) (by kernel_rfl) (fun _ _ _ h => h) (Or.inl ⟨by kernel_rfl, ?_⟩) (by assumption) ?_
              rotate_left; (intro w' hSw; (try dsimp only at hSw); go_split_ands; go_simp; (try with_reducible rfl))
              try dsimp only [Act.put]
              refine wpAnyH_take (i := 4) (oi := _) (v := ?_) rfl (by kernel_rfl) (by kernel_rfl) (by kernel_rfl) (fun _ _ _ h => h) (Or.inl ⟨by kernel_rfl, ?_⟩) (by assumption) ?_
              rotate_left; (intro w' hSw; (try dsimp only at hSw); go_split_ands; go_simp; (try with_reducible rfl))
              try dsimp only [Act.put]
              refine wpAnyH_take (i := 5) (oi := _) (v := ?_) rfl (by kernel_rfl) (by kernel_rfl) (by kernel_rfl) (fun _ _ _ h => h) (Or.inl ⟨by kernel_rfl, ?_⟩) (by assumption) ?_
              rotate_left; (intro w' hSw; (try dsimp only at hSw); go_split_ands; go_simp; (try with_reducible rfl))
              try dsimp only [Act.put]
              refine wpAnyH_take (i := 6) (oi := _) (v := ?_) rfl (by kernel_rfl) (by kernel_rfl) (by kernel_rfl) (fun _ _ _ h => h) (Or.inl ⟨by kernel_rfl, ?_⟩) (by assumption) ?_
              rotate_left; (intro w' hSw; (try dsimp only at hSw); go_split_ands; go_simp; (try with_reducible rfl))
              try dsimp only [Act.put]
              refine wpAnyH_take (i := 7) (oi := _) (v := ?_) rfl (by kernel_rfl) (by kernel_rfl) (by kernel_rfl) (fun _ _ _ h => h) (Or.inl ⟨by kernel_rfl, ?_⟩) (by assumption) ?_
              rotate_left; (intro w' hSw; (try dsimp only at hSw); go_split_ands; go_simp; (try with_reducible rfl))
              try dsimp only [Act.put]
              refine wpAnyH_take (i := 8) (oi := _) (v := ?_) rfl (by kernel_rfl) (by kernel_rfl) (by kernel_rfl) (fun _ _ _ h => h) (Or.inl ⟨by kernel_rfl, ?_⟩) (by assumption) ?_
              rotate_left; (intro w' hSw; (try dsimp only at hSw); go_split_ands; go_simp; (try with_reducible rfl))
              try dsimp only [Act.put]
              refine wpAnyH_take (i := 9) (oi := _) (v := ?_) rfl (by kernel_rfl) (by kernel_rfl) (by kernel_rfl) (fun _ _ _ h => h) (Or.inl ⟨by kernel_rfl, ?_⟩) (by assumption) ?_
              rotate_left; (intro w' hSw; (try dsimp only at hSw); go_split_ands; go_simp; (try with_reducible rfl))
              try dsimp only [Act.put]
              refine wpAnyH_take (i := 10) (oi := _) (v := ?_) rfl (by kernel_rfl) (by kernel_rfl) (by kernel_rfl) (fun _ _ _ h => h) (Or.inl ⟨by kernel_rfl, ?_⟩) (by assumption) ?_
              rotate_left; (intro w' hSw; (try dsimp only at hSw); go_split_ands; go_simp; (try with_reducible rfl))
              try dsimp only [Act.put]
              refine wpAnyH_take (i := 11) (oi := _) (v := ?_) rfl (by kernel_rfl) (by kernel_rfl) (by kernel_rfl) (fun _ _ _ h => h) (Or.inl ⟨by kernel_rfl, ?_⟩) (by assumption) ?_
              rotate_left; (intro w' hSw; (try dsimp only at hSw); go_split_ands; go_simp; (try with_reducible rfl))
              try dsimp only [Act.put]
              refine wpAnyH_ready (rs := [12]) (by kernel_rfl) (by simp) ?_
              refine AllReadyH.cons (o := _) rfl (fun K hK => ?_) AllReadyH.nil
              go_simp
              refine hK.out _ _ (CC.out _ ND.out) (fun hH12 => ?_)
              clear hK K
              try dsimp only [Act.put]
              refine wpAnyH_done (by kernel_rfl) ?_ _
              refine NoPanic.normal ?_
              go_simp
              go_wp2
              go_roundw
              case rel => exact ⟨k + 1, by omega, by go_num, ND⟩
              case measure => simp [intOf]; omega
          · obtain rfl : m1 = k := by omega
            go_wp2
            go_ret
            exact ⟨rfl, NN.out.trans HN.out⟩
  · have EA : Hid (nxA m1 zs = -1) := Lib.hid (if_neg hv)
    clear hv
    go_wp2_with fail
    refine (NextTask_any B1 m1 d1 zs (by omega) _ I1.out).mono ?_
    rw [EA.out]
    rintro e w2 ⟨rfl, N2a⟩
    have s2 := N2a.le
    have I1 := Lib.hid (I1.out.new N2a)
    have N2 := Lib.hid (N1.out.trans N2a); clear N2a
    go_wp2_with fail
    refine (SNextTask_any B1 m1 d1 zs (by omega) _ I1.out).mono ?_
    rw [EA.out]
    rintro e w3 ⟨rfl, N3a⟩
    have s3 := N3a.le
    have I1 := Lib.hid (I1.out.new N3a)
    have N3 := Lib.hid (N2.out.trans N3a); clear N3a
    go_wp2_with fail
    refine (SNextTask_any B1 m1 d1 zs (by omega) _ I1.out).mono ?_
    rw [EA.out]
    rintro e w4 ⟨rfl, N4a⟩
    have s4 := N4a.le
    have I1 := Lib.hid (I1.out.new N4a)
    have N4 := Lib.hid (N3.out.trans N4a); clear N4a
    go_wp2
    go_ret
    exact ⟨rfl, N4.out⟩
end Go.Proofs.Ytecnhjofgkhlnaa
