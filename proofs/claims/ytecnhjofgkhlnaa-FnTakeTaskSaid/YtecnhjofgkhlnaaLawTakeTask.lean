/- The law FnTakeTask, walked: taken tasks are gone, and the others are older. Condition: the code can be read. -/
import Derived.Test.YtecnhjofgkhlnaaDrawQu
import Derived.Test.YtecnhjofgkhlnaaHeapA
import Derived.Test.YtecnhjofgkhlnaaHeapY
import Derived.Test.YtecnhjofgkhlnaaTaskQ
import Derived.Test.YtecnhjofgkhlnaaTkT
import Derived.Test.YtecnhjofgkhlnaaTaskV
import Derived.IntWalk
namespace Go.Proofs.Ytecnhjofgkhlnaa
open Go.RowKit

set_option maxHeartbeats 4000000 in
theorem lawTakeTask (A : Option Addr) (n c : Nat) (hn : n ≤ maxLen) (hnc : n ≤ c) (w : World) (hb : Bytes w A n) :
    Calls Try.prog 9 #[.slice A n c] w fun e w' => e = .returned (.bool true) ∧ New w w' := by
  have HB := Lib.hid hb; have HM := Lib.hid hn
  clear hb
  unfold maxLen at hn
  by_cases hbig : 1048576 < n
  · go_enter Try.func9, Try.ntmps9
    go_wp2
    go_ret
    exact ⟨rfl, by (repeat (first | exact New.refl _ | assumption | refine New.alloc ?_ _ | refine New.drew ?_ | refine New.drewN ?_ _ | refine New.setCell ?_ (by first | omega | (simp; omega) | (simp; done)) _ | refine New.trans ?_ (by assumption)))⟩
  have hm : (n : Int) ≤ 1048576 := by omega
  have hm0 : (0 : Int) ≤ (n : Int) := by omega
  go_enter Try.func9, Try.ntmps9
  go_wp2_with fail
  refine (DrawTakeTask_any A n c HM.out hnc _ HB.out).mono ?_
  rintro e w1 ⟨B1, m1, d1, zs, rfl, I1, kd, k11, N1a⟩
  have s1 := N1a.le
  have N1 := Lib.hid ((New.refl w).trans N1a); clear N1a
  have HL := Lib.hid I1.len
  have m11 : (m1 : Int) ≤ 11 := by omega
  have m0 : (0 : Int) ≤ (m1 : Int) := by omega
  replace I1 := Lib.hid I1
  cases hok : tkOk m1 zs
  · have OK := Lib.hid hok
    have LP : Hid ((tkA m1 zs).length = 0 * 3) := Lib.hid (by unfold tkA; rw [hok]; rfl)
    clear hok
    go_wp2_with fail
    refine (TakeTask_ansT B1 m1 d1 zs (by omega) _ I1.out).mono ?_
    rw [OK.out]
    rintro e w2 ⟨A2, n2, c2, rfl, l2, r2, N2a⟩
    have s2 := N2a.le
    have I1 := Lib.hid (I1.out.new N2a)
    have N2 := Lib.hid (N1.out.trans N2a); clear N2a
    obtain rfl : 0 = n2 := by have := LP.out; omega
    have R2 := Lib.hid r2; clear l2 r2
    go_wp2_with fail
    refine (STakeTask_ansT B1 m1 d1 zs (by omega) _ I1.out).mono ?_
    rw [OK.out]
    rintro e w3 ⟨A3, n3, c3, rfl, l3, r3, N3a⟩
    have s3 := N3a.le
    have I1 := Lib.hid (I1.out.new N3a)
    have R2 := Lib.hid (R2.out.new N3a)
    have N3 := Lib.hid (N2.out.trans N3a); clear N3a
    obtain rfl : 0 = n3 := by have := LP.out; omega
    have R3 := Lib.hid r3; clear l3 r3
    go_wp2_with fail
    refine (equalTasks_same _ _ 0 _ _ _ (by omega) _ (Sts.of_res R2.out LP.out) (Sts.of_res R3.out LP.out)).mono ?_
    rintro e w4 ⟨rfl, N4a⟩
    have s4 := N4a.le
    have I1 := Lib.hid (I1.out.new N4a)
    have R2 := Lib.hid (R2.out.new N4a)
    have R3 := Lib.hid (R3.out.new N4a)
    have N4 := Lib.hid (N3.out.trans N4a); clear N4a
    go_wp2_with fail
    refine (equalTasks_same _ _ 0 _ _ _ (by omega) _ (Sts.of_res R2.out LP.out) (Sts.of_res R3.out LP.out)).mono ?_
    rintro e w5 ⟨rfl, N5a⟩
    have s5 := N5a.le
    have I1 := Lib.hid (I1.out.new N5a)
    have R2 := Lib.hid (R2.out.new N5a)
    have R3 := Lib.hid (R3.out.new N5a)
    have N5 := Lib.hid (N4.out.trans N5a); clear N5a
    go_wp2
    go_ret
    exact ⟨by first | rfl | simp, N5.out⟩
  · have OK := Lib.hid hok
    obtain ⟨hv, h0⟩ : vtk m1 zs = true ∧ 0 < m1 := by unfold tkOk at hok; rw [Bool.and_eq_true, decide_eq_true_eq] at hok; exact hok
    have ni : (m1 : Int) ≤ 10 := by have := (vtk_at hv).1; omega
    obtain ⟨p, hp⟩ : ∃ p, nx zs (m1 - 1) = p := ⟨_, rfl⟩
    have pm : p < m1 := by have := nx_le zs (m1 - 1); omega
    have ES : Hid (tkA m1 zs = flL (stk zs p m1)) := Lib.hid (by unfold tkA; rw [if_pos hok, hp])
    have EA : Hid (nxA m1 zs = tid zs p) := Lib.hid (by rw [← hp]; exact if_pos ⟨hv, h0⟩)
    have one := stk_one (zs := zs) (m := p) m1 pm
    obtain ⟨m, hm⟩ : ∃ m, (stk zs p m1).length = m := ⟨_, rfl⟩
    have VV : Hid (vtk m (flL (stk zs p m1)) = true) := Lib.hid (by rw [← hm]; exact stk_ok hv pm)
    have LIE := Lib.hid (fun i (hi : i < m1) (hne : i ≠ p) => stk_lies (zs := zs) (p := p) hi hne)
    have SN := Lib.hid (fun i (hne : i ≠ p) => (show (stk zs p (i + 1)).length = (stk zs p i).length + 1 by rw [stk_other hne, List.length_append]; rfl))
    have SA : Hid ((stk zs p (p + 1)).length = (stk zs p p).length) := Lib.hid (by rw [stk_at])
    rw [hm] at LIE one
    have LP : Hid ((tkA m1 zs).length = m * 3) := Lib.hid (by rw [ES.out, flL_len, hm])
    have LF : Hid ((flL (stk zs p m1)).length = m * 3) := Lib.hid (by rw [flL_len, hm])
    have HM2 := Lib.hid hm
    have VTK := Lib.hid (vtk_at hv).2
    have IDS := Lib.hid (fun k (hk : k < m1) (hne : k ≠ p) => (show tid zs k ≠ tid zs p by
      rcases Nat.lt_or_ge k p with h | h
      · have := ((vtk_at hv).2 p pm).2 k h; omega
      · have := ((vtk_at hv).2 k hk).2 p (by omega); omega))
    have BD := Lib.hid (fun k (hk : k < m1) => (VTK.out k hk).1.2.2)
    obtain ⟨z, hz⟩ : ∃ z, tid zs p = z := ⟨_, rfl⟩
    rw [hz] at EA IDS
    have ZE := Lib.hid hz
    have SL := Lib.hid (fun i => stk_len zs p i)
    have HM3 : Hid ((stk zs p m1).length = m) := Lib.hid hm
    obtain ⟨S, hS⟩ : ∃ S, stk zs p m1 = S := ⟨_, rfl⟩
    rw [hS] at ES VV LIE LF
    clear hS
    have m9 : m ≤ 9 := by omega
    have mi0 : (0 : Int) ≤ (m : Int) := by omega
    clear hok hv hp hm hz
    go_wp2_with fail
    refine (TakeTask_ansT B1 m1 d1 zs (by omega) _ I1.out).mono ?_
    rw [OK.out]
    rintro e w2 ⟨A2, n2, c2, rfl, l2, r2, N2a⟩
    have s2 := N2a.le
    have I1 := Lib.hid (I1.out.new N2a)
    have N2 := Lib.hid (N1.out.trans N2a); clear N2a
    obtain rfl : m = n2 := by have := LP.out; omega
    have R2 := Lib.hid r2; clear l2 r2
    go_wp2_with fail
    refine (STakeTask_ansT B1 m1 d1 zs (by omega) _ I1.out).mono ?_
    rw [OK.out]
    rintro e w3 ⟨A3, n3, c3, rfl, l3, r3, N3a⟩
    have s3 := N3a.le
    have I1 := Lib.hid (I1.out.new N3a)
    have R2 := Lib.hid (R2.out.new N3a)
    have N3 := Lib.hid (N2.out.trans N3a); clear N3a
    obtain rfl : m = n3 := by have := LP.out; omega
    have R3 := Lib.hid r3; clear l3 r3
    go_wp2_with fail
    refine (equalTasks_same _ _ m _ _ _ (by omega) _ (Sts.of_res R2.out LP.out) (Sts.of_res R3.out LP.out)).mono ?_
    rintro e w4 ⟨rfl, N4a⟩
    have s4 := N4a.le
    have I1 := Lib.hid (I1.out.new N4a)
    have R2 := Lib.hid (R2.out.new N4a)
    have R3 := Lib.hid (R3.out.new N4a)
    have N4 := Lib.hid (N3.out.trans N4a); clear N4a
    replace R2 := Lib.hid (ES.out ▸ R2.out)
    go_wp2_with fail
    refine (NextTask_any B1 m1 d1 zs (by omega) _ I1.out).mono ?_
    rw [EA.out]
    rintro e w5 ⟨rfl, N5a⟩
    have s5 := N5a.le
    have I1 := Lib.hid (I1.out.new N5a)
    have R2 := Lib.hid (R2.out.new N5a)
    have R3 := Lib.hid (R3.out.new N5a)
    have N5 := Lib.hid (N4.out.trans N5a); clear N5a
    have SB := Lib.hid (Sts.of_res R2.out LF.out)
    obtain ⟨b, off, rfl, hb, hc⟩ := I1.out.at_ h0
    have HC := Lib.hid (fun k (hk : k < m1) X (hX : New w5 X) => (show X.cell? ⟨b, off + k * 3, none⟩ = some (.int .i64 (tid zs k)) ∧ X.cell? ⟨b, off + k * 3 + 1, none⟩ = some (.int .i64 (trk zs k)) ∧ X.cell? ⟨b, off + k * 3 + 2, none⟩ = some (.int .i64 (tag zs k)) from ⟨(hX.cells b _ hb).trans (hc (k * 3) (by omega)), (hX.cells b _ hb).trans (hc (k * 3 + 1) (by omega)), (hX.cells b _ hb).trans (hc (k * 3 + 2) (by omega))⟩))
    have HD := Lib.hid (fun (h : 0 < m) => (show ∃ g' off', A2 = some ⟨g', off', none⟩ ∧ ∀ k, k < m → ∀ X, New w5 X → X.cell? ⟨g', off' + k * 3, none⟩ = some (.int .i64 (tkOf (flL S) k).1) ∧ X.cell? ⟨g', off' + k * 3 + 1, none⟩ = some (.int .i64 (tkOf (flL S) k).2.1) ∧ X.cell? ⟨g', off' + k * 3 + 2, none⟩ = some (.int .i64 (tkOf (flL S) k).2.2) by
      obtain ⟨g', off', e, hb, hc⟩ := SB.out.at_ h
      exact ⟨g', off', e, fun k hk X hX => ⟨(hX.cells g' _ hb).trans (hc (k * 3) (by omega)), (hX.cells g' _ hb).trans (hc (k * 3 + 1) (by omega)), (hX.cells g' _ hb).trans (hc (k * 3 + 2) (by omega))⟩⟩))
    have NN := Lib.hid N5.out
    clear hc hb
    go_wp2
    go_loopw [9, 10] (fun q i wr => ∃ k : Nat, k ≤ m1 ∧ i = .int .i64 k ∧ q = .int .i64 ((stk zs p k).length : Nat) ∧ Hid (New w5 wr)) (fun _ i _ => m1 - (intOf i).toNat)
    case atStart => exact ⟨0, Nat.zero_le _, rfl, rfl, Lib.hid (New.refl _)⟩
    case round =>
      obtain ⟨k, hk, rfl, rfl, HN⟩ := hrel
      have k0 : (0 : Int) ≤ (k : Int) := by omega
      by_cases hlt : k < m1
      · have k1 : (k : Int) < (m1 : Int) := by omega
        by_cases hkp : k = p
        · subst hkp
          obtain ⟨g0, g1, g2⟩ := HC.out k hlt wr HN.out
          rw [ZE.out] at g0
          obtain ⟨q, hq⟩ : ∃ q, (stk zs k k).length = q := ⟨_, rfl⟩
          have QE : Hid ((stk zs k (k + 1)).length = q) := Lib.hid (SA.out.trans hq)
          rw [hq]
          clear hq
          go_wp2
          go_roundw
          case rel => exact ⟨k + 1, by omega, by go_num, by rw [QE.out], HN⟩
          case measure => simp [intOf]; omega
        · have ne := IDS.out k hlt hkp
          have nb : (tid zs k == z) = false := by simpa using ne
          obtain ⟨lq, lt⟩ := LIE.out k hlt hkp
          have sn := Lib.hid (SN.out k hkp)
          obtain ⟨g', off', eA, HE⟩ := HD.out (by omega)
          subst eA
          have HQ := HE _ lq
          rw [lt] at HQ
          obtain ⟨a0, a1⟩ := BD.out k hlt
          have a0' : 0 ≤ tag zs k := a0
          have a1' : tag zs k ≤ 20 := a1
          have CC := Lib.hid (fun X (hX : New w5 X) => (⟨HC.out k hlt X hX, HQ X hX⟩ : (X.cell? ⟨b, off + k * 3, none⟩ = some (.int .i64 (tid zs k)) ∧ X.cell? ⟨b, off + k * 3 + 1, none⟩ = some (.int .i64 (trk zs k)) ∧ X.cell? ⟨b, off + k * 3 + 2, none⟩ = some (.int .i64 (tag zs k))) ∧ X.cell? ⟨g', off' + (stk zs p k).length * 3, none⟩ = some (.int .i64 (tid zs k)) ∧ X.cell? ⟨g', off' + (stk zs p k).length * 3 + 1, none⟩ = some (.int .i64 (trk zs k)) ∧ X.cell? ⟨g', off' + (stk zs p k).length * 3 + 2, none⟩ = some (.int .i64 (mn (tag zs k + 1) 20))))
          have g0 := (CC.out wr HN.out).1.1
          have ql : (stk zs p k).length ≤ 10 := by have := SL.out k; omega
          clear ne a0 a1 lt HQ HE
          generalize (stk zs p k).length = q at *
          generalize tid zs k = u at *
          generalize trk zs k = r at *
          generalize tag zs k = a at *
          have q0 : (0 : Int) ≤ (q : Int) := by omega
          have qm : (q : Int) < (m : Int) := by omega
          have qd : decide ((m : Int) ≤ (q : Int)) = false := decide_eq_false (by omega)
          have qd2 : decide (m ≤ q) = false := decide_eq_false (by omega)
          have aw : IntKind.i64.wrap (a + 1) = a + 1 := IntWalk.i64_in _ (by omega)
          have hmn := run_mn Try.prog
          have ND := Lib.hid HN.out.drew
          go_wp2
          clear g0
          refine wp_region_noPanic ?_
          refine wp_region_held_drew (S := fun w' => (w'.cell? ⟨b, off + k * 3, none⟩ = some (.int .i64 u) ∧ w'.cell? ⟨b, off + k * 3 + 1, none⟩ = some (.int .i64 r) ∧ w'.cell? ⟨b, off + k * 3 + 2, none⟩ = some (.int .i64 a)) ∧ w'.cell? ⟨g', off' + q * 3, none⟩ = some (.int .i64 u) ∧ w'.cell? ⟨g', off' + q * 3 + 1, none⟩ = some (.int .i64 r) ∧ w'.cell? ⟨g', off' + q * 3 + 2, none⟩ = some (.int .i64 (mn (a + 1) 20))) (by kernel_rfl) (CC.out _ ND.out) (fun hHeld => ?_)
          generalize wr.drew = Vd at ND hHeld ⊢
          refine wpAnyH_take (i := 0) (oi := _) (v := ?_) rfl (by kernel_rfl) (by kernel_rfl) (by kernel_rfl) (fun _ _ _ h => h) (Or.inl ⟨by kernel_rfl, ?_⟩) (by assumption) ?_
          rotate_left; (intro w' hSw; (try dsimp only at hSw); go_split_ands; go_simp; (try with_reducible rfl))
          try dsimp only [Act.put]
          refine wpAnyH_take (i := 1) (oi := _) (v := ?_) rfl (by kernel_rfl) (by kernel_rfl) (by kernel_rfl) (fun _ _ _ h => h) (Or.inl ⟨by kernel_rfl, ?_⟩) (by assumption) ?_
          rotate_left; (intro w' hSw; (try dsimp only at hSw); go_split_ands; go_simp; (try with_reducible rfl))
          try dsimp only [Act.put]
          refine wpAnyH_take (i := 2) (oi := _) (v := ?_) rfl (by kernel_rfl) (by kernel_rfl) (by kernel_rfl) (fun _ _ _ h => h) (Or.inl ⟨by kernel_rfl, ?_⟩) (by assumption) ?_
          rotate_left; (intro w' hSw; (try dsimp only at hSw); go_split_ands; go_simp; (try with_reducible rfl))
          try dsimp only [Act.put]
          refine wpAnyH_take (i := 3) (oi := _) (v := ?_) rfl (by kernel_rfl) (by kernel_rfl) (by kernel_rfl) (fun _ _ _ h => h) (Or.inl ⟨by kernel_rfl, ?_⟩) (by assumption) ?_
          rotate_left; (intro w' hSw; (try dsimp only at hSw); go_split_ands; go_simp; (try with_reducible rfl))
          try dsimp only [Act.put]
          refine wpAnyH_take (i := 4) (oi := _) (v := ?_) rfl (by kernel_rfl) (by kernel_rfl) (by kernel_rfl) (fun _ _ _ h => h) (Or.inl ⟨by kernel_rfl, ?_⟩) (by assumption) ?_
          rotate_left; (intro w' hSw; (try dsimp only at hSw); go_split_ands; go_simp; (try with_reducible rfl))
          try dsimp only [Act.put]
          refine wpAnyH_take (i := 5) (oi := _) (v := ?_) rfl (by kernel_rfl) (by kernel_rfl) (by kernel_rfl) (fun _ _ _ h => h) (Or.inl ⟨by kernel_rfl, ?_⟩) (by assumption) ?_
          rotate_left; (intro w' hSw; (try dsimp only at hSw); go_split_ands; go_simp; (try with_reducible rfl))
          try dsimp only [Act.put]
          refine wpAnyH_take (i := 6) (oi := _) (v := ?_) rfl (by kernel_rfl) (by kernel_rfl) (by kernel_rfl) (fun _ _ _ h => h) (Or.inl ⟨by kernel_rfl, ?_⟩) (by assumption) ?_
          rotate_left; (intro w' hSw; (try dsimp only at hSw); go_split_ands; go_simp; (try with_reducible rfl))
          try dsimp only [Act.put]
          refine wpAnyH_take (i := 7) (oi := _) (v := ?_) rfl (by kernel_rfl) (by kernel_rfl) (by kernel_rfl) (fun _ _ _ h => h) (Or.inl ⟨by kernel_rfl, ?_⟩) (by assumption) ?_
          rotate_left; (intro w' hSw; (try dsimp only at hSw); go_split_ands; go_simp; (try with_reducible rfl))
          try dsimp only [Act.put]
          refine wpAnyH_take (i := 8) (oi := _) (v := ?_) rfl (by kernel_rfl) (by kernel_rfl) (by kernel_rfl) (fun _ _ _ h => h) (Or.inl ⟨by kernel_rfl, ?_⟩) (by assumption) ?_
          rotate_left; (intro w' hSw; (try dsimp only at hSw); go_split_ands; go_simp; (try with_reducible rfl))
          try dsimp only [Act.put]
          refine wpAnyH_take (i := 9) (oi := _) (v := ?_) rfl (by kernel_rfl) (by kernel_rfl) (by kernel_rfl) (fun _ _ _ h => h) (Or.inl ⟨by kernel_rfl, ?_⟩) (by assumption) ?_
          rotate_left; (intro w' hSw; (try dsimp only at hSw); go_split_ands; go_simp; (try with_reducible rfl))
          try dsimp only [Act.put]
          refine wpAnyH_take (i := 10) (oi := _) (v := ?_) rfl (by kernel_rfl) (by kernel_rfl) (by kernel_rfl) (fun _ _ _ h => h) (Or.inl ⟨by kernel_rfl, ?_⟩) (by assumption) ?_
          rotate_left; (intro w' hSw; (try dsimp only at hSw); go_split_ands; go_simp; (try with_reducible rfl))
          try dsimp only [Act.put]
          refine wpAnyH_take (i := 11) (oi := _) (v := ?_) rfl (by kernel_rfl) (by kernel_rfl) (by kernel_rfl) (fun _ _ _ h => h) (Or.inl ⟨by kernel_rfl, ?_⟩) (by assumption) ?_
          rotate_left; (intro w' hSw; (try dsimp only at hSw); go_split_ands; go_simp; (try with_reducible rfl))
          try dsimp only [Act.put]
          refine wpAnyH_take (i := 12) (oi := _) (v := ?_) rfl (by kernel_rfl) (by kernel_rfl) (by kernel_rfl) (fun _ _ _ h => h) (Or.inl ⟨by kernel_rfl, ?_⟩) (by assumption) ?_
          rotate_left; (intro w' hSw; (try dsimp only at hSw); go_split_ands; go_simp; (try with_reducible rfl))
          try dsimp only [Act.put]
          refine wpAnyH_take (i := 13) (oi := _) (v := ?_) rfl (by kernel_rfl) (by kernel_rfl) (by kernel_rfl) (fun _ _ _ h => h) (Or.inl ⟨by kernel_rfl, ?_⟩) (by assumption) ?_
          rotate_left; (intro w' hSw; (try dsimp only at hSw); go_split_ands; go_simp; (try with_reducible rfl))
          try dsimp only [Act.put]
          refine wpAnyH_take (i := 14) (oi := _) (v := ?_) rfl (by kernel_rfl) (by kernel_rfl) (by kernel_rfl) (fun _ _ _ h => h) (Or.inl ⟨by kernel_rfl, ?_⟩) (by assumption) ?_
          rotate_left; (intro w' hSw; (try dsimp only at hSw); go_split_ands; go_simp; (try with_reducible rfl))
          try dsimp only [Act.put]
          refine wpAnyH_take (i := 15) (oi := _) (v := ?_) rfl (by kernel_rfl) (by kernel_rfl) (by kernel_rfl) (fun _ _ _ h => h) (Or.inl ⟨by kernel_rfl, ?_⟩) (by assumption) ?_
          rotate_left; (intro w' hSw; (try dsimp only at hSw); go_split_ands; go_simp; (try with_reducible rfl))
          try dsimp only [Act.put]
          refine wpAnyH_take (i := 16) (oi := _) (v := ?_) rfl (by kernel_rfl) (by kernel_rfl) (by kernel_rfl) (fun _ _ _ h => h) (Or.inl ⟨by kernel_rfl, ?_⟩) (by assumption) ?_
          rotate_left; (intro w' hSw; (try dsimp only at hSw); go_split_ands; go_simp; (try with_reducible rfl))
          try dsimp only [Act.put]
          refine wpAnyH_take (i := 17) (oi := _) (v := ?_) rfl (by kernel_rfl) (by kernel_rfl) (by kernel_rfl) (fun _ _ _ h => h) (Or.inl ⟨by kernel_rfl, ?_⟩) (by assumption) ?_
          rotate_left; (intro w' hSw; (try dsimp only at hSw); go_split_ands; go_simp; (try with_reducible rfl))
          try dsimp only [Act.put]
          refine wpAnyH_take (i := 18) (oi := _) (v := ?_) rfl (by kernel_rfl) (by kernel_rfl) (by kernel_rfl) (fun _ _ _ h => h) (Or.inl ⟨by kernel_rfl, ?_⟩) (by assumption) ?_
          rotate_left; (intro w' hSw; (try dsimp only at hSw); go_split_ands; go_simp; (try with_reducible rfl))
          try dsimp only [Act.put]
          refine wpAnyH_take (i := 19) (oi := _) (v := ?_) rfl (by kernel_rfl) (by kernel_rfl) (by kernel_rfl) (fun _ _ _ h => h) (Or.inl ⟨by kernel_rfl, ?_⟩) (by assumption) ?_
          rotate_left; (intro w' hSw; (try dsimp only at hSw); go_split_ands; go_simp; (try with_reducible rfl))
          try dsimp only [Act.put]
          refine wpAnyH_take (i := 20) (oi := _) (v := ?_) rfl (by kernel_rfl) (by kernel_rfl) (by kernel_rfl) (fun _ _ _ h => h) (Or.inl ⟨by kernel_rfl, ?_⟩) (by assumption) ?_
          rotate_left; (intro w' hSw; (try dsimp only at hSw); go_split_ands; go_simp; (try with_reducible rfl))
          try dsimp only [Act.put]
          refine wpAnyH_take (i := 21) (oi := _) (v := ?_) rfl (by kernel_rfl) (by kernel_rfl) (by kernel_rfl) (fun _ _ _ h => h) (Or.inl ⟨by kernel_rfl, ?_⟩) (by assumption) ?_
          rotate_left; (intro w' hSw; (try dsimp only at hSw); go_split_ands; go_simp; (try with_reducible rfl))
          try dsimp only [Act.put]
          refine wpAnyH_take (i := 22) (oi := _) (v := ?_) rfl (by kernel_rfl) (by kernel_rfl) (by kernel_rfl) (fun _ _ _ h => h) (Or.inl ⟨by kernel_rfl, ?_⟩) (by assumption) ?_
          rotate_left; (intro w' hSw; (try dsimp only at hSw); go_split_ands; go_simp; (try with_reducible rfl))
          try dsimp only [Act.put]
          refine wpAnyH_take (i := 23) (oi := _) (v := ?_) rfl (by kernel_rfl) (by kernel_rfl) (by kernel_rfl) (fun _ _ _ h => h) (Or.inl ⟨by kernel_rfl, ?_⟩) (by assumption) ?_
          rotate_left; (intro w' hSw; (try dsimp only at hSw); go_split_ands; go_simp; (try with_reducible rfl))
          try dsimp only [Act.put]
          refine wpAnyH_take (i := 24) (oi := _) (v := ?_) rfl (by kernel_rfl) (by kernel_rfl) (by kernel_rfl) (fun _ _ _ h => h) (Or.inl ⟨by kernel_rfl, ?_⟩) (by assumption) ?_
          rotate_left; (intro w' hSw; (try dsimp only at hSw); go_split_ands; go_simp; (try with_reducible rfl))
          try dsimp only [Act.put]
          refine wpAnyH_take (i := 25) (oi := _) (v := ?_) rfl (by kernel_rfl) (by kernel_rfl) (by kernel_rfl) (fun _ _ _ h => h) (Or.inl ⟨by kernel_rfl, ?_⟩) (by assumption) ?_
          rotate_left; (intro w' hSw; (try dsimp only at hSw); go_split_ands; go_simp; (try with_reducible rfl))
          try dsimp only [Act.put]
          refine wpAnyH_take (i := 26) (oi := _) (v := ?_) rfl (by kernel_rfl) (by kernel_rfl) (by kernel_rfl) (fun _ _ _ h => h) (Or.inl ⟨by kernel_rfl, ?_⟩) (by assumption) ?_
          rotate_left; (intro w' hSw; (try dsimp only at hSw); go_split_ands; go_simp; (try with_reducible rfl))
          try dsimp only [Act.put]
          refine wpAnyH_take (i := 27) (oi := _) (v := ?_) rfl (by kernel_rfl) (by kernel_rfl) (by kernel_rfl) (fun _ _ _ h => h) (Or.inl ⟨by kernel_rfl, ?_⟩) (by assumption) ?_
          rotate_left; (intro w' hSw; (try dsimp only at hSw); go_split_ands; go_simp; (try with_reducible rfl))
          try dsimp only [Act.put]
          refine wpAnyH_take (i := 28) (oi := _) (v := ?_) rfl (by kernel_rfl) (by kernel_rfl) (by kernel_rfl) (fun _ _ _ h => h) (Or.inl ⟨by kernel_rfl, ?_⟩) (by assumption) ?_
          rotate_left; (intro w' hSw; (try dsimp only at hSw); go_split_ands; go_simp; (try with_reducible rfl))
          try dsimp only [Act.put]
          refine wpAnyH_done (by kernel_rfl) ?_ _
          refine NoPanic.normal ?_
          go_simp
          go_wp2
          go_roundw
          case rel => exact ⟨k + 1, by omega, by go_num, by rw [sn.out]; rfl, ND⟩
          case measure => simp [intOf]; omega
      · obtain rfl : m1 = k := by omega
        rw [HM3.out]
        go_wp2_with fail
        refine (ValidTasks_any _ m _ (flL S) (by omega) _ (SB.out.new HN.out)).mono ?_
        rw [VV.out]
        rintro e w9' ⟨rfl, N9⟩
        go_wp2
        go_ret
        exact ⟨by first | rfl | simp, NN.out.trans (HN.out.trans N9)⟩
end Go.Proofs.Ytecnhjofgkhlnaa
