/- The law FnTakeTaskPush, walked: a task that was taken can be pushed again. Condition: the code can be read. -/
import Derived.Test.YtecnhjofgkhlnaaDrawQu
import Derived.Test.YtecnhjofgkhlnaaPshS
import Derived.Test.YtecnhjofgkhlnaaTaskQ
import Derived.Test.YtecnhjofgkhlnaaTkT
import Derived.IntWalk
namespace Go.Proofs.Ytecnhjofgkhlnaa
open Go.RowKit

set_option maxHeartbeats 4000000 in
theorem lawTakeTaskPush (A : Option Addr) (n c : Nat) (hn : n ≤ maxLen) (hnc : n ≤ c) (w : World) (hb : Bytes w A n) :
    Calls Try.prog 13 #[.slice A n c] w fun e w' => e = .returned (.bool true) ∧ New w w' := by
  have HB := Lib.hid hb; have HM := Lib.hid hn
  clear hb
  unfold maxLen at hn
  by_cases hbig : 1048576 < n
  · go_enter Try.func13, Try.ntmps13
    go_wp2
    go_ret
    exact ⟨rfl, by (repeat (first | exact New.refl _ | assumption | refine New.alloc ?_ _ | refine New.drew ?_ | refine New.drewN ?_ _ | refine New.setCell ?_ (by first | omega | (simp; omega) | (simp; done)) _ | refine New.trans ?_ (by assumption)))⟩
  have hm : (n : Int) ≤ 1048576 := by omega
  have hm0 : (0 : Int) ≤ (n : Int) := by omega
  go_enter Try.func13, Try.ntmps13
  go_wp2_with fail
  refine (DrawTakeTask_any A n c HM.out hnc _ HB.out).mono ?_
  rintro e w1 ⟨B1, m1, d1, zs, rfl, I1, kd, k11, N1a⟩
  have s1 := N1a.le
  have N1 := Lib.hid ((New.refl w).trans N1a); clear N1a
  have HL := Lib.hid I1.len
  have m11 : (m1 : Int) ≤ 11 := by omega
  have m0 : (0 : Int) ≤ (m1 : Int) := by omega
  replace I1 := Lib.hid I1
  cases hok : tkOk m1 zs
  · have OK := Lib.hid hok
    have LP : Hid ((tkA m1 zs).length = 0 * 3) := Lib.hid (by unfold tkA; rw [hok]; rfl)
    clear hok
    go_wp2_with fail
    refine (TakeTask_ansT B1 m1 d1 zs (by omega) _ I1.out).mono ?_
    rw [OK.out]
    rintro e w2 ⟨A2, n2, c2, rfl, l2, r2, N2a⟩
    have s2 := N2a.le
    have I1 := Lib.hid (I1.out.new N2a)
    have N2 := Lib.hid (N1.out.trans N2a); clear N2a
    obtain rfl : 0 = n2 := by have := LP.out; omega
    have R2 := Lib.hid r2; clear l2 r2
    go_wp2_with fail
    refine (STakeTask_ansT B1 m1 d1 zs (by omega) _ I1.out).mono ?_
    rw [OK.out]
    rintro e w3 ⟨A3, n3, c3, rfl, l3, r3, N3a⟩
    have s3 := N3a.le
    have I1 := Lib.hid (I1.out.new N3a)
    have R2 := Lib.hid (R2.out.new N3a)
    have N3 := Lib.hid (N2.out.trans N3a); clear N3a
    obtain rfl : 0 = n3 := by have := LP.out; omega
    have R3 := Lib.hid r3; clear l3 r3
    go_wp2_with fail
    refine (equalTasks_same _ _ 0 _ _ _ (by omega) _ (Sts.of_res R2.out LP.out) (Sts.of_res R3.out LP.out)).mono ?_
    rintro e w4 ⟨rfl, N4a⟩
    have s4 := N4a.le
    have I1 := Lib.hid (I1.out.new N4a)
    have R2 := Lib.hid (R2.out.new N4a)
    have R3 := Lib.hid (R3.out.new N4a)
    have N4 := Lib.hid (N3.out.trans N4a); clear N4a
    go_wp2_with fail
    refine (equalTasks_same _ _ 0 _ _ _ (by omega) _ (Sts.of_res R2.out LP.out) (Sts.of_res R3.out LP.out)).mono ?_
    rintro e w5 ⟨rfl, N5a⟩
    have s5 := N5a.le
    have I1 := Lib.hid (I1.out.new N5a)
    have R2 := Lib.hid (R2.out.new N5a)
    have R3 := Lib.hid (R3.out.new N5a)
    have N5 := Lib.hid (N4.out.trans N5a); clear N5a
    go_wp2
    go_ret
    exact ⟨by first | rfl | simp, N5.out⟩
  · have OK := Lib.hid hok
    obtain ⟨hv, h0⟩ : vtk m1 zs = true ∧ 0 < m1 := by unfold tkOk at hok; rw [Bool.and_eq_true, decide_eq_true_eq] at hok; exact hok
    have ni : (m1 : Int) ≤ 10 := by have := (vtk_at hv).1; omega
    obtain ⟨S, m, hS, hm1, hm2, po, pq, pu⟩ := take_push hv h0
    have ES : Hid (tkA m1 zs = flL S) := Lib.hid (by unfold tkA; rw [if_pos hok, hS])
    have EA : Hid (nxA m1 zs = tid zs (nx zs (m1 - 1))) := Lib.hid (if_pos ⟨hv, h0⟩)
    obtain ⟨z, hz⟩ : ∃ z, tid zs (nx zs (m1 - 1)) = z := ⟨_, rfl⟩
    rw [hz] at EA po pq pu
    have LP : Hid ((tkA m1 zs).length = m * 3) := Lib.hid (by rw [ES.out, flL_len, hm1])
    have LF : Hid ((flL S).length = m * 3) := Lib.hid (by rw [flL_len, hm1])
    have T1 := Lib.hid po
    have EB := Lib.hid (psA_yes po)
    obtain ⟨B, hB⟩ : ∃ B, psL (flL S) m z 9 = B := ⟨_, rfl⟩
    rw [hB] at EB pq pu
    have LB : Hid ((psA m (flL S) z 9).length = m1 * 3) := Lib.hid (by rw [EB.out, flL_len, pq])
    have LG : Hid ((flL B).length = m1 * 3) := Lib.hid (by rw [flL_len, pq])
    have PU := Lib.hid (fun k (hk : k < m1) (he : tid (flL B) k = z) => (show trk (flL B) k = 9 ∧ tag (flL B) k = 0 by
      have e := tkOf_flL (l := B) (k := k) (by omega)
      have h := pu _ (List.getElem_mem (show k < B.length by omega)) (by rw [← e]; exact he)
      rw [← e] at h
      exact ⟨congrArg (fun t : Tk => t.2.1) h, congrArg (fun t : Tk => t.2.2) h⟩))
    have m9 : m ≤ 9 := by omega
    clear hok hv hS hm1 hz po hB pq pu
    go_wp2_with fail
    refine (TakeTask_ansT B1 m1 d1 zs (by omega) _ I1.out).mono ?_
    rw [OK.out]
    rintro e w2 ⟨A2, n2, c2, rfl, l2, r2, N2a⟩
    have s2 := N2a.le
    have I1 := Lib.hid (I1.out.new N2a)
    have N2 := Lib.hid (N1.out.trans N2a); clear N2a
    obtain rfl : m = n2 := by have := LP.out; omega
    have R2 := Lib.hid r2; clear l2 r2
    go_wp2_with fail
    refine (STakeTask_ansT B1 m1 d1 zs (by omega) _ I1.out).mono ?_
    rw [OK.out]
    rintro e w3 ⟨A3, n3, c3, rfl, l3, r3, N3a⟩
    have s3 := N3a.le
    have I1 := Lib.hid (I1.out.new N3a)
    have R2 := Lib.hid (R2.out.new N3a)
    have N3 := Lib.hid (N2.out.trans N3a); clear N3a
    obtain rfl : m = n3 := by have := LP.out; omega
    have R3 := Lib.hid r3; clear l3 r3
    go_wp2_with fail
    refine (equalTasks_same _ _ m _ _ _ (by omega) _ (Sts.of_res R2.out LP.out) (Sts.of_res R3.out LP.out)).mono ?_
    rintro e w4 ⟨rfl, N4a⟩
    have s4 := N4a.le
    have I1 := Lib.hid (I1.out.new N4a)
    have R2 := Lib.hid (R2.out.new N4a)
    have R3 := Lib.hid (R3.out.new N4a)
    have N4 := Lib.hid (N3.out.trans N4a); clear N4a
    replace R2 := Lib.hid (ES.out ▸ R2.out)
    go_wp2_with fail
    refine (NextTask_any B1 m1 d1 zs (by omega) _ I1.out).mono ?_
    rw [EA.out]
    rintro e w5 ⟨rfl, N5a⟩
    have s5 := N5a.le
    have I1 := Lib.hid (I1.out.new N5a)
    have R2 := Lib.hid (R2.out.new N5a)
    have R3 := Lib.hid (R3.out.new N5a)
    have N5 := Lib.hid (N4.out.trans N5a); clear N5a
    go_wp2_with fail
    refine (PushTask_ansT A2 m c2 (flL S) z 9 (by omega) _ (Sts.of_res R2.out LF.out)).mono ?_
    rw [T1.out]
    rintro e w6 ⟨A6, n6, c6, rfl, l6, r6, N6a⟩
    have s6 := N6a.le
    have I1 := Lib.hid (I1.out.new N6a)
    have R2 := Lib.hid (R2.out.new N6a)
    have R3 := Lib.hid (R3.out.new N6a)
    have N6 := Lib.hid (N5.out.trans N6a); clear N6a
    obtain rfl : m1 = n6 := by have := LB.out; omega
    have R6 := Lib.hid r6; clear l6 r6
    replace R6 := Lib.hid (EB.out ▸ R6.out)
    have SB := Lib.hid (Sts.of_res R6.out LG.out)
    obtain ⟨g, off, e6, hb, hc⟩ := SB.out.at_ h0
    subst e6
    have HC := Lib.hid (fun k (hk : k < m1) X (hX : New w6 X) => (show X.cell? ⟨g, off + k * 3, none⟩ = some (.int .i64 (tid (flL B) k)) ∧ X.cell? ⟨g, off + k * 3 + 1, none⟩ = some (.int .i64 (trk (flL B) k)) ∧ X.cell? ⟨g, off + k * 3 + 2, none⟩ = some (.int .i64 (tag (flL B) k)) from ⟨(hX.cells g _ hb).trans (hc (k * 3) (by omega)), (hX.cells g _ hb).trans (hc (k * 3 + 1) (by omega)), (hX.cells g _ hb).trans (hc (k * 3 + 2) (by omega))⟩))
    have NN := Lib.hid N6.out
    have NX := Lib.hid (fun X (hX : New w6 X) => NextTask_any B1 m1 d1 zs (by omega) X (I1.out.new hX))
    clear hc hb
    go_wp2
    go_loopw [10] (fun i wr => ∃ k : Nat, k ≤ m1 ∧ i = .int .i64 k ∧ Hid (New w6 wr)) (fun i _ => m1 - (intOf i).toNat)
    case atStart => exact ⟨0, Nat.zero_le _, rfl, Lib.hid (New.refl _)⟩
    case round =>
      obtain ⟨k, hk, rfl, HN⟩ := hrel
      have k0 : (0 : Int) ≤ (k : Int) := by omega
      by_cases hlt : k < m1
      · have k1 : (k : Int) < (m1 : Int) := by omega
        have CC := Lib.hid (fun X (hX : New w6 X) => HC.out k hlt X hX)
        have ND := Lib.hid HN.out.drew
        by_cases he : tid (flL B) k = z
        · obtain ⟨q1, q2⟩ := PU.out k hlt he
          rw [he, q1, q2] at CC
          clear he q1 q2
          go_wp2
          refine wp_region_noPanic ?_
          refine wp_region_held_drew (S := fun w' => w'.cell? ⟨g, off + k * 3, none⟩ = some (.int .i64 z) ∧ w'.cell? ⟨g, off + k * 3 + 1, none⟩ = some (.int .i64 9) ∧ w'.cell? ⟨g, off + k * 3 + 2, none⟩ = some (.int .i64 0)) (by kernel_rfl) (CC.out _ ND.out) (fun hHeld => ?_)
          generalize wr.drew = Vd at ND hHeld ⊢
          refine wpAnyH_take (i := 0) (oi := _) (v := ?_) rfl (by kernel_rfl) (by kernel_rfl) (by kernel_rfl) (fun _ _ _ h => h) (Or.inl ⟨by kernel_rfl, ?_⟩) (by assumption) ?_
          rotate_left; (intro w' hSw; (try dsimp only at hSw); go_split_ands; go_simp; (try with_reducible rfl))
          try dsimp only [Act.put]
          refine wpAnyH_take (i := 1) (oi := _) (v := ?_) rfl (by kernel_rfl) (by kernel_rfl) (by kernel_rfl) (fun _ _ _ h => h) (Or.inl ⟨by kernel_rfl, ?_⟩) (by assumption) ?_
          rotate_left; (intro w' hSw; (try dsimp only at hSw); go_split_ands; go_simp; (try with_reducible rfl))
          try dsimp only [Act.put]
          refine wpAnyH_take (i := 2) (oi := _) (v := ?_) rfl (by kernel_rfl) (by kernel_rfl) (by kernel_rfl) (fun _ _ _ h => h) (Or.inl ⟨by kernel_rfl, ?_⟩) (by assumption) ?_
          rotate_left; (intro w' hSw; (try dsimp only at hSw); go_split_ands; go_simp; (try with_reducible rfl))
          try dsimp only [Act.put]
          refine wpAnyH_take (i := 3) (oi := _) (v := ?_) rfl (by kernel_rfl) (by kernel_rfl) (by kernel_rfl) (fun _ _ _ h => h) (Or.inl ⟨by kernel_rfl, ?_⟩) (by assumption) ?_
          rotate_left; (intro w' hSw; (try dsimp only at hSw); go_split_ands; go_simp; (try with_reducible rfl))
          try dsimp only [Act.put]
          refine wpAnyH_take (i := 4) (oi := _) (v := ?_) rfl (by kernel_rfl) (by kernel_rfl) (by kernel_rfl) (fun _ _ _ h => h) (Or.inl ⟨by kernel_rfl, ?_⟩) (by assumption) ?_
          rotate_left; (intro w' hSw; (try dsimp only at hSw); go_split_ands; go_simp; (try with_reducible rfl))
          try dsimp only [Act.put]
          refine wpAnyH_take (i := 5) (oi := _) (v := ?_) rfl (by kernel_rfl) (by kernel_rfl) (by kernel_rfl) (fun _ _ _ h => h) (Or.inl ⟨by kernel_rfl, ?_⟩) (by assumption) ?_
          rotate_left; (intro w' hSw; (try dsimp only at hSw); go_split_ands; go_simp; (try with_reducible rfl))
          try dsimp only [Act.put]
          refine wpAnyH_ready (rs := [6]) (by kernel_rfl) (by simp) ?_
          refine AllReadyH.cons (o := _) rfl (fun K hK => ?_) AllReadyH.nil
          go_simp
          go_at_call 18
          refine (NX.out _ ND.out).mono ?_
          rw [EA.out]
          rintro e w9' ⟨rfl, N9⟩
          have NF := Lib.hid (ND.out.trans N9)
          clear N9
          go_wp2_with fail
          refine hK.out _ _ (CC.out _ NF.out) (fun hH6 => ?_)
          clear hK K
          try dsimp only [Act.put]
          refine wpAnyH_take (i := 7) (oi := _) (v := ?_) rfl (by kernel_rfl) (by kernel_rfl) (by kernel_rfl) (fun _ _ _ h => h) (Or.inl ⟨by kernel_rfl, ?_⟩) (by assumption) ?_
          rotate_left; (intro w' hSw; (try dsimp only at hSw); go_split_ands; go_simp; (try with_reducible rfl))
          try dsimp only [Act.put]
          refine wpAnyH_take (i := 8) (oi := _) (v := ?_) rfl (by kernel_rfl) (by kernel_rfl) (by kernel_rfl) (fun _ _ _ h => h) (Or.inl ⟨by kernel_rfl, ?_⟩) (by assumption) ?_
          rotate_left; (intro w' hSw; (try dsimp only at hSw); go_split_ands; go_simp; (try with_reducible rfl))
          try dsimp only [Act.put]
          refine wpAnyH_take (i := 9) (oi := _) (v := ?_) rfl (by kernel_rfl) (by kernel_rfl) (by kernel_rfl) (fun _ _ _ h => h) (Or.inl ⟨by kernel_rfl, ?_⟩) (by assumption) ?_
          rotate_left; (intro w' hSw; (try dsimp only at hSw); go_split_ands; go_simp; (try with_reducible rfl))
          try dsimp only [Act.put]
          refine wpAnyH_take (i := 10) (oi := _) (v := ?_) rfl (by kernel_rfl) (by kernel_rfl) (by kernel_rfl) (fun _ _ _ h => h) (Or.inl ⟨by kernel_rfl, ?_⟩) (by assumption) ?_
          rotate_left; (intro w' hSw; (try dsimp only at hSw); go_split_ands; go_simp; (try with_reducible rfl))
          try dsimp only [Act.put]
          refine wpAnyH_take (i := 11) (oi := _) (v := ?_) rfl (by kernel_rfl) (by kernel_rfl) (by kernel_rfl) (fun _ _ _ h => h) (Or.inl ⟨by kernel_rfl, ?_⟩) (by assumption) ?_
          rotate_left; (intro w' hSw; (try dsimp only at hSw); go_split_ands; go_simp; (try with_reducible rfl))
          try dsimp only [Act.put]
          refine wpAnyH_take (i := 12) (oi := _) (v := ?_) rfl (by kernel_rfl) (by kernel_rfl) (by kernel_rfl) (fun _ _ _ h => h) (Or.inl ⟨by kernel_rfl, ?_⟩) (by assumption) ?_
          rotate_left; (intro w' hSw; (try dsimp only at hSw); go_split_ands; go_simp; (try with_reducible rfl))
          try dsimp only [Act.put]
          refine wpAnyH_take (i := 13) (oi := _) (v := ?_) rfl (by kernel_rfl) (by kernel_rfl) (by kernel_rfl) (fun _ _ _ h => h) (Or.inl ⟨by kernel_rfl, ?_⟩) (by assumption) ?_
          rotate_left; (intro w' hSw; (try dsimp only at hSw); go_split_ands; go_simp; (try with_reducible rfl))
          try dsimp only [Act.put]
          refine wpAnyH_take (i := 14) (oi := _) (v := ?_) rfl (by kernel_rfl) (by kernel_rfl) (by kernel_rfl) (fun _ _ _ h => h) (Or.inl ⟨by kernel_rfl, ?_⟩) (by assumption) ?_
          rotate_left; (intro w' hSw; (try dsimp only at hSw); go_split_ands; go_simp; (try with_reducible rfl))
          try dsimp only [Act.put]
          refine wpAnyH_take (i := 15) (oi := _) (v := ?_) rfl (by kernel_rfl) (by kernel_rfl) (by kernel_rfl) (fun _ _ _ h => h) (Or.inl ⟨by kernel_rfl, ?_⟩) (by assumption) ?_
          rotate_left; (intro w' hSw; (try dsimp only at hSw); go_split_ands; go_simp; (try with_reducible rfl))
          try dsimp only [Act.put]
          refine wpAnyH_take (i := 16) (oi := _) (v := ?_) rfl (by kernel_rfl) (by kernel_rfl) (by kernel_rfl) (fun _ _ _ h => h) (Or.inl ⟨by kernel_rfl, ?_⟩) (by assumption) ?_
          rotate_left; (intro w' hSw; (try dsimp only at hSw); go_split_ands; go_simp; (try with_reducible rfl))
          try dsimp only [Act.put]
          refine wpAnyH_take (i := 17) (oi := _) (v := ?_) rfl (by kernel_rfl) (by kernel_rfl) (by kernel_rfl) (fun _ _ _ h => h) (Or.inl ⟨by kernel_rfl, ?_⟩) (by assumption) ?_
          rotate_left; (intro w' hSw; (try dsimp only at hSw); go_split_ands; go_simp; (try with_reducible rfl))
          try dsimp only [Act.put]
          refine wpAnyH_take (i := 18) (oi := _) (v := ?_) rfl (by kernel_rfl) (by kernel_rfl) (by kernel_rfl) (fun _ _ _ h => h) (Or.inl ⟨by kernel_rfl, ?_⟩) (by assumption) ?_
          rotate_left; (intro w' hSw; (try dsimp only at hSw); go_split_ands; go_simp; (try with_reducible rfl))
          try dsimp only [Act.put]
          refine wpAnyH_take (i := 19) (oi := _) (v := ?_) rfl (by kernel_rfl) (by kernel_rfl) (by kernel_rfl) (fun _ _ _ h => h) (Or.inl ⟨by kernel_rfl, ?_⟩) (by assumption) ?_
          rotate_left; (intro w' hSw; (try dsimp only at hSw); go_split_ands; go_simp; (try with_reducible rfl))
          try dsimp only [Act.put]
          refine wpAnyH_take (i := 20) (oi := _) (v := ?_) rfl (by kernel_rfl) (by kernel_rfl) (by kernel_rfl) (fun _ _ _ h => h) (Or.inl ⟨by kernel_rfl, ?_⟩) (by assumption) ?_
          rotate_left; (intro w' hSw; (try dsimp only at hSw); go_split_ands; go_simp; (try with_reducible rfl))
          try dsimp only [Act.put]
          refine wpAnyH_take (i := 21) (oi := _) (v := ?_) rfl (by kernel_rfl) (by kernel_rfl) (by kernel_rfl) (fun _ _ _ h => h) (Or.inl ⟨by kernel_rfl, ?_⟩) (by assumption) ?_
          rotate_left; (intro w' hSw; (try dsimp only at hSw); go_split_ands; go_simp; (try with_reducible rfl))
          try dsimp only [Act.put]
          refine wpAnyH_take (i := 22) (oi := _) (v := ?_) rfl (by kernel_rfl) (by kernel_rfl) (by kernel_rfl) (fun _ _ _ h => h) (Or.inl ⟨by kernel_rfl, ?_⟩) (by assumption) ?_
          rotate_left; (intro w' hSw; (try dsimp only at hSw); go_split_ands; go_simp; (try with_reducible rfl))
          try dsimp only [Act.put]
          refine wpAnyH_take (i := 23) (oi := _) (v := ?_) rfl (by kernel_rfl) (by kernel_rfl) (by kernel_rfl) (fun _ _ _ h => h) (Or.inl ⟨by kernel_rfl, ?_⟩) (by assumption) ?_
          rotate_left; (intro w' hSw; (try dsimp only at hSw); go_split_ands; go_simp; (try with_reducible rfl))
          try dsimp only [Act.put]
          refine wpAnyH_done (by kernel_rfl) ?_ _
          refine NoPanic.normal ?_
          go_simp
          go_wp2
          go_roundw
          case rel => exact ⟨k + 1, by omega, by go_num, NF⟩
          case measure => simp [intOf]; omega
        · have nb : (tid (flL B) k == z) = false := by simpa using he
          clear he
          generalize tid (flL B) k = u at *
          generalize trk (flL B) k = r at *
          generalize tag (flL B) k = a at *
          go_wp2
          refine wp_region_noPanic ?_
          refine wp_region_held_drew (S := fun w' => w'.cell? ⟨g, off + k * 3, none⟩ = some (.int .i64 u) ∧ w'.cell? ⟨g, off + k * 3 + 1, none⟩ = some (.int .i64 r) ∧ w'.cell? ⟨g, off + k * 3 + 2, none⟩ = some (.int .i64 a)) (by kernel_rfl) (CC.out _ ND.out) (fun hHeld => ?_)
          generalize wr.drew = Vd at ND hHeld ⊢
          refine wpAnyH_take (i := 0) (oi := _) (v := ?_) rfl (by kernel_rfl) (by kernel_rfl) (by kernel_rfl) (fun _ _ _ h => h) (Or.inl ⟨by kernel_rfl, ?_⟩) (by assumption) ?_
          rotate_left; (intro w' hSw; (try dsimp only at hSw); go_split_ands; go_simp; (try with_reducible rfl))
          try dsimp only [Act.put]
          refine wpAnyH_take (i := 1) (oi := _) (v := ?_) rfl (by kernel_rfl) (by kernel_rfl) (by kernel_rfl) (fun _ _ _ h => h) (Or.inl ⟨by kernel_rfl, ?_⟩) (by assumption) ?_
          rotate_left; (intro w' hSw; (try dsimp only at hSw); go_split_ands; go_simp; (try with_reducible rfl))
          try dsimp only [Act.put]
          refine wpAnyH_take (i := 2) (oi := _) (v := ?_) rfl (by kernel_rfl) (by kernel_rfl) (by kernel_rfl) (fun _ _ _ h => h) (Or.inl ⟨by kernel_rfl, ?_⟩) (by assumption) ?_
          rotate_left; (intro w' hSw; (try dsimp only at hSw); go_split_ands; go_simp; (try with_reducible rfl))
          try dsimp only [Act.put]
          refine wpAnyH_take (i := 3) (oi := _) (v := ?_) rfl (by kernel_rfl) (by kernel_rfl) (by kernel_rfl) (fun _ _ _ h => h) (Or.inl ⟨by kernel_rfl, ?_⟩) (by assumption) ?_
          rotate_left; (intro w' hSw; (try dsimp only at hSw); go_split_ands; go_simp; (try with_reducible rfl))
          try dsimp only [Act.put]
          refine wpAnyH_take (i := 4) (oi := _) (v := ?_) rfl (by kernel_rfl) (by kernel_rfl) (by kernel_rfl) (fun _ _ _ h => h) (Or.inl ⟨by kernel_rfl, ?_⟩) (by assumption) ?_
          rotate_left; (intro w' hSw; (try dsimp only at hSw); go_split_ands; go_simp; (try with_reducible rfl))
          try dsimp only [Act.put]
          refine wpAnyH_take (i := 5) (oi := _) (v := ?_) rfl (by kernel_rfl) (by kernel_rfl) (by kernel_rfl) (fun _ _ _ h => h) (Or.inl ⟨by kernel_rfl, ?_⟩) (by assumption) ?_
          rotate_left; (intro w' hSw; (try dsimp only at hSw); go_split_ands; go_simp; (try with_reducible rfl))
          try dsimp only [Act.put]
          refine wpAnyH_ready (rs := [6]) (by kernel_rfl) (by simp) ?_
          refine AllReadyH.cons (o := _) rfl (fun K hK => ?_) AllReadyH.nil
          go_simp
          go_at_call 18
          refine (NX.out _ ND.out).mono ?_
          rw [EA.out]
          rintro e w9' ⟨rfl, N9⟩
          have NF := Lib.hid (ND.out.trans N9)
          clear N9
          go_wp2_with fail
          refine hK.out _ _ (CC.out _ NF.out) (fun hH6 => ?_)
          clear hK K
          try dsimp only [Act.put]
          refine wpAnyH_take (i := 7) (oi := _) (v := ?_) rfl (by kernel_rfl) (by kernel_rfl) (by kernel_rfl) (fun _ _ _ h => h) (Or.inl ⟨by kernel_rfl, ?_⟩) (by assumption) ?_
          rotate_left; (intro w' hSw; (try dsimp only at hSw); go_split_ands; go_simp; (try with_reducible rfl))
          try dsimp only [Act.put]
          refine wpAnyH_take (i := 8) (oi := _) (v := ?_) rfl (by kernel_rfl) (by kernel_rfl) (by kernel_rfl) (fun _ _ _ h => h) (Or.inl ⟨by kernel_rfl, ?_⟩) (by assumption) ?_
          rotate_left; (intro w' hSw; (try dsimp only at hSw); go_split_ands; go_simp; (try with_reducible rfl))
          try dsimp only [Act.put]
          refine wpAnyH_take (i := 9) (oi := _) (v := undef) rfl (by kernel_rfl) (by kernel_rfl) (by kernel_rfl) (fun _ _ _ h => h) (Or.inr ⟨by kernel_rfl, rfl⟩) (by assumption) ?_
          try dsimp only [Act.put]
          refine wpAnyH_take (i := 10) (oi := _) (v := undef) rfl (by kernel_rfl) (by kernel_rfl) (by kernel_rfl) (fun _ _ _ h => h) (Or.inr ⟨by kernel_rfl, rfl⟩) (by assumption) ?_
          try dsimp only [Act.put]
          refine wpAnyH_take (i := 11) (oi := _) (v := undef) rfl (by kernel_rfl) (by kernel_rfl) (by kernel_rfl) (fun _ _ _ h => h) (Or.inr ⟨by kernel_rfl, rfl⟩) (by assumption) ?_
          try dsimp only [Act.put]
          refine wpAnyH_take (i := 12) (oi := _) (v := undef) rfl (by kernel_rfl) (by kernel_rfl) (by kernel_rfl) (fun _ _ _ h => h) (Or.inr ⟨by kernel_rfl, rfl⟩) (by assumption) ?_
          try dsimp only [Act.put]
          refine wpAnyH_take (i := 13) (oi := _) (v := undef) rfl (by kernel_rfl) (by kernel_rfl) (by kernel_rfl) (fun _ _ _ h => h) (Or.inr ⟨by kernel_rfl, rfl⟩) (by assumption) ?_
          try dsimp only [Act.put]
          refine wpAnyH_take (i := 14) (oi := _) (v := undef) rfl (by kernel_rfl) (by kernel_rfl) (by kernel_rfl) (fun _ _ _ h => h) (Or.inr ⟨by kernel_rfl, rfl⟩) (by assumption) ?_
          try dsimp only [Act.put]
          refine wpAnyH_take (i := 15) (oi := _) (v := undef) rfl (by kernel_rfl) (by kernel_rfl) (by kernel_rfl) (fun _ _ _ h => h) (Or.inr ⟨by kernel_rfl, rfl⟩) (by assumption) ?_
          try dsimp only [Act.put]
          refine wpAnyH_take (i := 16) (oi := _) (v := undef) rfl (by kernel_rfl) (by kernel_rfl) (by kernel_rfl) (fun _ _ _ h => h) (Or.inr ⟨by kernel_rfl, rfl⟩) (by assumption) ?_
          try dsimp only [Act.put]
          refine wpAnyH_take (i := 17) (oi := _) (v := undef) rfl (by kernel_rfl) (by kernel_rfl) (by kernel_rfl) (fun _ _ _ h => h) (Or.inr ⟨by kernel_rfl, rfl⟩) (by assumption) ?_
          try dsimp only [Act.put]
          refine wpAnyH_take (i := 18) (oi := _) (v := undef) rfl (by kernel_rfl) (by kernel_rfl) (by kernel_rfl) (fun _ _ _ h => h) (Or.inr ⟨by kernel_rfl, rfl⟩) (by assumption) ?_
          try dsimp only [Act.put]
          refine wpAnyH_take (i := 19) (oi := _) (v := undef) rfl (by kernel_rfl) (by kernel_rfl) (by kernel_rfl) (fun _ _ _ h => h) (Or.inr ⟨by kernel_rfl, rfl⟩) (by assumption) ?_
          try dsimp only [Act.put]
          refine wpAnyH_take (i := 20) (oi := _) (v := undef) rfl (by kernel_rfl) (by kernel_rfl) (by kernel_rfl) (fun _ _ _ h => h) (Or.inr ⟨by kernel_rfl, rfl⟩) (by assumption) ?_
          try dsimp only [Act.put]
          refine wpAnyH_take (i := 21) (oi := _) (v := undef) rfl (by kernel_rfl) (by kernel_rfl) (by kernel_rfl) (fun _ _ _ h => h) (Or.inr ⟨by kernel_rfl, rfl⟩) (by assumption) ?_
          try dsimp only [Act.put]
          refine wpAnyH_take (i := 22) (oi := _) (v := undef) rfl (by kernel_rfl) (by kernel_rfl) (by kernel_rfl) (fun _ _ _ h => h) (Or.inr ⟨by kernel_rfl, rfl⟩) (by assumption) ?_
          try dsimp only [Act.put]
          refine wpAnyH_take (i := 23) (oi := _) (v := ?_) rfl (by kernel_rfl) (by kernel_rfl) (by kernel_rfl) (fun _ _ _ h => h) (Or.inl ⟨by kernel_rfl, ?_⟩) (by assumption) ?_
          rotate_left; (intro w' hSw; (try dsimp only at hSw); go_split_ands; go_simp; (try with_reducible rfl))
          try dsimp only [Act.put]
          refine wpAnyH_done (by kernel_rfl) ?_ _
          refine NoPanic.normal ?_
          go_simp
          go_wp2
          go_roundw
          case rel => exact ⟨k + 1, by omega, by go_num, NF⟩
          case measure => simp [intOf]; omega
      · obtain rfl : m1 = k := by omega
        go_wp2
        go_ret
        exact ⟨by first | rfl | simp, NN.out.trans HN.out⟩
end Go.Proofs.Ytecnhjofgkhlnaa
