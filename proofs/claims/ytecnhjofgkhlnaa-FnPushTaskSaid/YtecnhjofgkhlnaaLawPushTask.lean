/- The law FnPushTask, walked: a pushed task is there once, and the others are still there. Condition: the code can be read. -/
import Derived.Test.YtecnhjofgkhlnaaDrawQu
import Derived.Test.YtecnhjofgkhlnaaPshS
import Derived.Test.YtecnhjofgkhlnaaTaskQ
import Derived.Test.YtecnhjofgkhlnaaTkT
import Derived.Test.YtecnhjofgkhlnaaTkE
import Derived.Test.YtecnhjofgkhlnaaTaskV
import Derived.IntWalk
namespace Go.Proofs.Ytecnhjofgkhlnaa
open Go.RowKit

set_option maxHeartbeats 4000000 in
theorem lawPushTask (A : Option Addr) (n c : Nat) (hn : n ≤ maxLen) (hnc : n ≤ c) (w : World) (hb : Bytes w A n) :
    Calls Try.prog 10 #[.slice A n c] w fun e w' => e = .returned (.bool true) ∧ New w w' := by
  have HB := Lib.hid hb; have HM := Lib.hid hn
  clear hb
  unfold maxLen at hn
  by_cases hbig : 1048576 < n
  · go_enter Try.func10, Try.ntmps10
    go_wp2
    go_ret
    exact ⟨rfl, by (repeat (first | exact New.refl _ | assumption | refine New.alloc ?_ _ | refine New.drew ?_ | refine New.drewN ?_ _ | refine New.setCell ?_ (by first | omega | (simp; omega) | (simp; done)) _ | refine New.trans ?_ (by assumption)))⟩
  have hm : (n : Int) ≤ 1048576 := by omega
  have hm0 : (0 : Int) ≤ (n : Int) := by omega
  go_enter Try.func10, Try.ntmps10
  go_wp2_with fail
  refine (DrawPushTask_any A n c HM.out hnc _ HB.out).mono ?_
  rintro e w1 ⟨B1, m1, d1, zs, x, y, rfl, I1, kd, k11, N1a⟩
  have s1 := N1a.le
  have N1 := Lib.hid ((New.refl w).trans N1a); clear N1a
  have HL := Lib.hid I1.len
  have m11 : (m1 : Int) ≤ 11 := by omega
  have m0 : (0 : Int) ≤ (m1 : Int) := by omega
  replace I1 := Lib.hid I1
  cases hok : psOk m1 zs x y
  · have OK := Lib.hid hok
    have LP : Hid ((psA m1 zs x y).length = 0 * 3) := Lib.hid (by rw [psA_no hok]; rfl)
    clear hok
    go_wp2_with fail
    refine (PushTask_ansT B1 m1 d1 zs x y (by omega) _ I1.out).mono ?_
    rw [OK.out]
    rintro e w2 ⟨A2, n2, c2, rfl, l2, r2, N2a⟩
    have s2 := N2a.le
    have I1 := Lib.hid (I1.out.new N2a)
    have N2 := Lib.hid (N1.out.trans N2a); clear N2a
    obtain rfl : 0 = n2 := by have := LP.out; omega
    have R2 := Lib.hid r2; clear l2 r2
    go_wp2_with fail
    refine (SPushTask_ansT B1 m1 d1 zs x y (by omega) _ I1.out).mono ?_
    rw [OK.out]
    rintro e w3 ⟨A3, n3, c3, rfl, l3, r3, N3a⟩
    have s3 := N3a.le
    have I1 := Lib.hid (I1.out.new N3a)
    have R2 := Lib.hid (R2.out.new N3a)
    have N3 := Lib.hid (N2.out.trans N3a); clear N3a
    obtain rfl : 0 = n3 := by have := LP.out; omega
    have R3 := Lib.hid r3; clear l3 r3
    go_wp2_with fail
    refine (equalTasks_same _ _ 0 _ _ _ (by omega) _ (Sts.of_res R2.out LP.out) (Sts.of_res R3.out LP.out)).mono ?_
    rintro e w4 ⟨rfl, N4a⟩
    have s4 := N4a.le
    have I1 := Lib.hid (I1.out.new N4a)
    have R2 := Lib.hid (R2.out.new N4a)
    have R3 := Lib.hid (R3.out.new N4a)
    have N4 := Lib.hid (N3.out.trans N4a); clear N4a
    go_wp2_with fail
    refine (equalTasks_same _ _ 0 _ _ _ (by omega) _ (Sts.of_res R2.out LP.out) (Sts.of_res R3.out LP.out)).mono ?_
    rintro e w5 ⟨rfl, N5a⟩
    have s5 := N5a.le
    have I1 := Lib.hid (I1.out.new N5a)
    have R2 := Lib.hid (R2.out.new N5a)
    have R3 := Lib.hid (R3.out.new N5a)
    have N5 := Lib.hid (N4.out.trans N5a); clear N5a
    go_wp2
    go_ret
    exact ⟨by first | rfl | simp, N5.out⟩
  · have OK := Lib.hid hok
    have ES := Lib.hid (psA_yes hok)
    have PO := ps_ok hok
    have pv := psV_iff.1 PO.1
    have n10 := (vtk_at pv.1).1
    have LPL := psL_len (d := x) (r := y) pv.1
    obtain ⟨L, hL⟩ : ∃ L, psL zs m1 x y = L := ⟨_, rfl⟩
    obtain ⟨M, hM⟩ : ∃ M, L.length = M := ⟨_, rfl⟩
    have M11 : M ≤ 11 := by rw [hL, hM] at LPL; split at LPL <;> omega
    have LP : Hid ((psA m1 zs x y).length = M * 3) := Lib.hid (by rw [ES.out, flL_len, hL, hM])
    have LF : Hid ((flL L).length = M * 3) := Lib.hid (by rw [flL_len, hM])
    obtain ⟨pp, pid⟩ := ps_place hok
    have prk := ps_rank hok
    have VV := Lib.hid PO.2.1
    have TH := Lib.hid (fun i (hi : i < m1) (hne : tid zs i ≠ x) => ps_there hok hi hne)
    obtain ⟨p, hp⟩ : ∃ p, pl zs x m1 = p := ⟨_, rfl⟩
    rw [hp, hL] at prk
    rw [hp, hL, hM] at pp pid
    rw [hL, hM] at VV TH
    rw [hL] at ES
    have PID := Lib.hid pid
    have MM : (M : Int) ≤ (m1 : Int) + 1 := by rw [hL, hM] at LPL; split at LPL <;> omega
    have Mi : (M : Int) ≤ 11 := by omega
    have M0 : (0 : Int) ≤ (M : Int) := by omega
    clear hok PO pv LPL hL hM hp pid
    go_wp2_with fail
    refine (PushTask_ansT B1 m1 d1 zs x y (by omega) _ I1.out).mono ?_
    rw [OK.out]
    rintro e w2 ⟨A2, n2, c2, rfl, l2, r2, N2a⟩
    have s2 := N2a.le
    have I1 := Lib.hid (I1.out.new N2a)
    have N2 := Lib.hid (N1.out.trans N2a); clear N2a
    obtain rfl : M = n2 := by have := LP.out; omega
    have R2 := Lib.hid r2; clear l2 r2
    go_wp2_with fail
    refine (SPushTask_ansT B1 m1 d1 zs x y (by omega) _ I1.out).mono ?_
    rw [OK.out]
    rintro e w3 ⟨A3, n3, c3, rfl, l3, r3, N3a⟩
    have s3 := N3a.le
    have I1 := Lib.hid (I1.out.new N3a)
    have R2 := Lib.hid (R2.out.new N3a)
    have N3 := Lib.hid (N2.out.trans N3a); clear N3a
    obtain rfl : M = n3 := by have := LP.out; omega
    have R3 := Lib.hid r3; clear l3 r3
    go_wp2_with fail
    refine (equalTasks_same _ _ M _ _ _ (by omega) _ (Sts.of_res R2.out LP.out) (Sts.of_res R3.out LP.out)).mono ?_
    rintro e w4 ⟨rfl, N4a⟩
    have s4 := N4a.le
    have I1 := Lib.hid (I1.out.new N4a)
    have R2 := Lib.hid (R2.out.new N4a)
    have R3 := Lib.hid (R3.out.new N4a)
    have N4 := Lib.hid (N3.out.trans N4a); clear N4a
    replace R2 := Lib.hid (ES.out ▸ R2.out)
    have SB := Lib.hid (Sts.of_res R2.out LF.out)
    obtain ⟨g, off, e2, hb, hc⟩ := SB.out.at_ (show 0 < M by omega)
    subst e2
    have HC := Lib.hid (fun k (hk : k < M) X (hX : New w4 X) => (show X.cell? ⟨g, off + k * 3, none⟩ = some (.int .i64 (tid (flL L) k)) ∧ X.cell? ⟨g, off + k * 3 + 1, none⟩ = some (.int .i64 (trk (flL L) k)) ∧ X.cell? ⟨g, off + k * 3 + 2, none⟩ = some (.int .i64 (tag (flL L) k)) from ⟨(hX.cells g _ hb).trans (hc (k * 3) (by omega)), (hX.cells g _ hb).trans (hc (k * 3 + 1) (by omega)), (hX.cells g _ hb).trans (hc (k * 3 + 2) (by omega))⟩))
    have NN := Lib.hid N4.out
    clear hc hb
    go_wp2
    go_loopw [10, 11] (fun q i wr => ∃ k : Nat, k ≤ M ∧ i = .int .i64 k ∧ q = .int .i64 (if p < k then 1 else 0) ∧ Hid (New w4 wr)) (fun _ i _ => M - (intOf i).toNat)
    case atStart => exact ⟨0, Nat.zero_le _, rfl, by rw [if_neg (by omega)], Lib.hid (New.refl _)⟩
    case round =>
      obtain ⟨k, hk, rfl, rfl, HN⟩ := hrel
      have k0 : (0 : Int) ≤ (k : Int) := by omega
      by_cases hlt : k < M
      · have k1 : (k : Int) < (M : Int) := by omega
        obtain ⟨g0, g1, g2⟩ := HC.out k hlt _ HN.out
        by_cases hkp : k = p
        · have e0 := (PID.out k hlt).2 hkp
          rw [e0] at g0
          subst hkp
          rw [if_neg (show ¬ k < k by omega)]
          have ES2 : Hid ((if k < k + 1 then (1 : Int) else 0) = 1) := Lib.hid (if_pos (by omega))
          have rk : ¬ y < trk (flL L) k := by omega
          have rkd : decide (y < trk (flL L) k) = false := decide_eq_false rk
          clear e0 g2
          generalize trk (flL L) k = r at *
          go_wp2
          go_roundw
          case rel => exact ⟨k + 1, by omega, by go_num, by rw [ES2.out], HN⟩
          case measure => simp [intOf]; omega
        · have ES2 : Hid ((if p < k + 1 then (1 : Int) else 0) = if p < k then 1 else 0) := Lib.hid (by
            by_cases h : p < k
            · rw [if_pos h, if_pos (by omega)]
            · rw [if_neg h, if_neg (by omega)])
          have nb : (tid (flL L) k == x) = false := by
            have h : ¬ tid (flL L) k = x := fun h => hkp ((PID.out k hlt).1 h)
            simpa using h
          clear g1 g2
          generalize tid (flL L) k = u at *
          generalize (if p < k then (1 : Int) else 0) = v at *
          go_wp2
          go_roundw
          case rel => exact ⟨k + 1, by omega, by go_num, by rw [ES2.out], HN⟩
          case measure => simp [intOf]; omega
      · obtain rfl : M = k := by omega
        rw [if_pos pp]
        have N0 := HN
        clear HN
        generalize hwr : wr = wn at *
        clear hwr
        go_wp2
        go_loopw [12] (fun i wr => ∃ k : Nat, k ≤ m1 ∧ i = .int .i64 k ∧ Hid (New w4 wr)) (fun i _ => m1 - (intOf i).toNat)
        case atStart => exact ⟨0, Nat.zero_le _, rfl, N0⟩
        case round =>
          clear N0
          obtain ⟨i, hi, rfl, HN⟩ := hrel
          have i0 : (0 : Int) ≤ (i : Int) := by omega
          by_cases hli : i < m1
          · have i1 : (i : Int) < (m1 : Int) := by omega
            obtain ⟨b, off', rfl, hb, hc⟩ := I1.out.at_ (show 0 < m1 by omega)
            have HI := Lib.hid (fun X (hX : New w4 X) => (show X.cell? ⟨b, off' + i * 3, none⟩ = some (.int .i64 (tid zs i)) ∧ X.cell? ⟨b, off' + i * 3 + 1, none⟩ = some (.int .i64 (trk zs i)) ∧ X.cell? ⟨b, off' + i * 3 + 2, none⟩ = some (.int .i64 (tag zs i)) from ⟨(hX.cells b _ hb).trans (hc (i * 3) (by omega)), (hX.cells b _ hb).trans (hc (i * 3 + 1) (by omega)), (hX.cells b _ hb).trans (hc (i * 3 + 2) (by omega))⟩))
            have g0 := (HI.out _ HN.out).1
            clear hc hb
            have ALL : Hid (som (tid zs i == x) (flL L) zs i M = true) := Lib.hid (by
              by_cases h : tid zs i = x
              · exact som_base (by simpa using h) M
              · obtain ⟨k, hk, e⟩ := TH.out i hli h
                exact som_at e M hk)
            have NI := HN
            clear HN
            generalize hwr : wr = wo at *
            clear hwr
            go_wp2
            go_loopw [13, 14] (fun b j wr => ∃ k : Nat, k ≤ M ∧ j = .int .i64 k ∧ b = .bool (som (tid zs i == x) (flL L) zs i k) ∧ Hid (New w4 wr)) (fun _ j _ => M - (intOf j).toNat)
            case atStart => exact ⟨0, Nat.zero_le _, rfl, rfl, NI⟩
            case round =>
              clear NI g0
              obtain ⟨k, hk, rfl, rfl, HN⟩ := hrel
              have k0 : (0 : Int) ≤ (k : Int) := by omega
              by_cases hlt : k < M
              · have k1 : (k : Int) < (M : Int) := by omega
                have SS : Hid (som (tid zs i == x) (flL L) zs i (k + 1) = (som (tid zs i == x) (flL L) zs i k || decide (tid (flL L) k = tid zs i ∧ trk (flL L) k = trk zs i ∧ tag (flL L) k = tag zs i))) := Lib.hid rfl
                have CC := Lib.hid (fun X (hX : New w4 X) => (show (X.cell? ⟨g, off + k * 3, none⟩ = some (.int .i64 (tid (flL L) k)) ∧ X.cell? ⟨g, off + k * 3 + 1, none⟩ = some (.int .i64 (trk (flL L) k)) ∧ X.cell? ⟨g, off + k * 3 + 2, none⟩ = some (.int .i64 (tag (flL L) k))) ∧ X.cell? ⟨b, off' + i * 3, none⟩ = some (.int .i64 (tid zs i)) ∧ X.cell? ⟨b, off' + i * 3 + 1, none⟩ = some (.int .i64 (trk zs i)) ∧ X.cell? ⟨b, off' + i * 3 + 2, none⟩ = some (.int .i64 (tag zs i)) from ⟨HC.out k hlt X hX, HI.out X hX⟩))
                have ND := Lib.hid HN.out.drew
                cases hso : som (tid zs i == x) (flL L) zs i k
                · rw [hso] at SS
                  clear hso
                  generalize tid (flL L) k = q0 at *
                  generalize trk (flL L) k = q1 at *
                  generalize tag (flL L) k = q2 at *
                  generalize hz0 : tid zs i = z0 at *
                  generalize trk zs i = z1 at *
                  generalize tag zs i = z2 at *
                  have hel := fun W => eql_task q0 q1 q2 z0 z1 z2 W
                  obtain ⟨v, hv⟩ : ∃ v, decide (q0 = z0 ∧ q1 = z1 ∧ q2 = z2) = v := ⟨_, rfl⟩
                  rw [hv] at hel SS
                  clear hv
                  go_wp2
                  refine wp_region_noPanic ?_
                  refine wp_region_held_drew (S := fun w' => (w'.cell? ⟨g, off + k * 3, none⟩ = some (.int .i64 q0) ∧ w'.cell? ⟨g, off + k * 3 + 1, none⟩ = some (.int .i64 q1) ∧ w'.cell? ⟨g, off + k * 3 + 2, none⟩ = some (.int .i64 q2)) ∧ w'.cell? ⟨b, off' + i * 3, none⟩ = some (.int .i64 z0) ∧ w'.cell? ⟨b, off' + i * 3 + 1, none⟩ = some (.int .i64 z1) ∧ w'.cell? ⟨b, off' + i * 3 + 2, none⟩ = some (.int .i64 z2)) (by kernel_rfl) (CC.out _ ND.out) (fun hHeld => ?_)
                  generalize wr.drew = Vd at ND hHeld ⊢
                  refine wpAnyH_take (i := 0) (oi := _) (v := ?_) rfl (by kernel_rfl) (by kernel_rfl) (by kernel_rfl) (fun _ _ _ h => h) (Or.inl ⟨by kernel_rfl, ?_⟩) (by assumption) ?_
                  rotate_left; (intro w' hSw; (try dsimp only at hSw); go_split_ands; go_simp; (try with_reducible rfl))
                  try dsimp only [Act.put]
                  refine wpAnyH_take (i := 1) (oi := _) (v := ?_) rfl (by kernel_rfl) (by kernel_rfl) (by kernel_rfl) (fun _ _ _ h => h) (Or.inl ⟨by kernel_rfl, ?_⟩) (by assumption) ?_
                  rotate_left; (intro w' hSw; (try dsimp only at hSw); go_split_ands; go_simp; (try with_reducible rfl))
                  try dsimp only [Act.put]
                  refine wpAnyH_take (i := 2) (oi := _) (v := ?_) rfl (by kernel_rfl) (by kernel_rfl) (by kernel_rfl) (fun _ _ _ h => h) (Or.inl ⟨by kernel_rfl, ?_⟩) (by assumption) ?_
                  rotate_left; (intro w' hSw; (try dsimp only at hSw); go_split_ands; go_simp; (try with_reducible rfl))
                  try dsimp only [Act.put]
                  refine wpAnyH_take (i := 3) (oi := _) (v := ?_) rfl (by kernel_rfl) (by kernel_rfl) (by kernel_rfl) (fun _ _ _ h => h) (Or.inl ⟨by kernel_rfl, ?_⟩) (by assumption) ?_
                  rotate_left; (intro w' hSw; (try dsimp only at hSw); go_split_ands; go_simp; (try with_reducible rfl))
                  try dsimp only [Act.put]
                  refine wpAnyH_take (i := 4) (oi := _) (v := ?_) rfl (by kernel_rfl) (by kernel_rfl) (by kernel_rfl) (fun _ _ _ h => h) (Or.inl ⟨by kernel_rfl, ?_⟩) (by assumption) ?_
                  rotate_left; (intro w' hSw; (try dsimp only at hSw); go_split_ands; go_simp; (try with_reducible rfl))
                  try dsimp only [Act.put]
                  refine wpAnyH_take (i := 5) (oi := _) (v := ?_) rfl (by kernel_rfl) (by kernel_rfl) (by kernel_rfl) (fun _ _ _ h => h) (Or.inl ⟨by kernel_rfl, ?_⟩) (by assumption) ?_
                  rotate_left; (intro w' hSw; (try dsimp only at hSw); go_split_ands; go_simp; (try with_reducible rfl))
                  try dsimp only [Act.put]
                  refine wpAnyH_take (i := 6) (oi := _) (v := ?_) rfl (by kernel_rfl) (by kernel_rfl) (by kernel_rfl) (fun _ _ _ h => h) (Or.inl ⟨by kernel_rfl, ?_⟩) (by assumption) ?_
                  rotate_left; (intro w' hSw; (try dsimp only at hSw); go_split_ands; go_simp; (try with_reducible rfl))
                  try dsimp only [Act.put]
                  refine wpAnyH_take (i := 7) (oi := _) (v := ?_) rfl (by kernel_rfl) (by kernel_rfl) (by kernel_rfl) (fun _ _ _ h => h) (Or.inl ⟨by kernel_rfl, ?_⟩) (by assumption) ?_
                  rotate_left; (intro w' hSw; (try dsimp only at hSw); go_split_ands; go_simp; (try with_reducible rfl))
                  try dsimp only [Act.put]
                  refine wpAnyH_take (i := 8) (oi := _) (v := ?_) rfl (by kernel_rfl) (by kernel_rfl) (by kernel_rfl) (fun _ _ _ h => h) (Or.inl ⟨by kernel_rfl, ?_⟩) (by assumption) ?_
                  rotate_left; (intro w' hSw; (try dsimp only at hSw); go_split_ands; go_simp; (try with_reducible rfl))
                  try dsimp only [Act.put]
                  refine wpAnyH_take (i := 9) (oi := _) (v := ?_) rfl (by kernel_rfl) (by kernel_rfl) (by kernel_rfl) (fun _ _ _ h => h) (Or.inl ⟨by kernel_rfl, ?_⟩) (by assumption) ?_
                  rotate_left; (intro w' hSw; (try dsimp only at hSw); go_split_ands; go_simp; (try with_reducible rfl))
                  try dsimp only [Act.put]
                  refine wpAnyH_take (i := 10) (oi := _) (v := ?_) rfl (by kernel_rfl) (by kernel_rfl) (by kernel_rfl) (fun _ _ _ h => h) (Or.inl ⟨by kernel_rfl, ?_⟩) (by assumption) ?_
                  rotate_left; (intro w' hSw; (try dsimp only at hSw); go_split_ands; go_simp; (try with_reducible rfl))
                  try dsimp only [Act.put]
                  refine wpAnyH_take (i := 11) (oi := _) (v := ?_) rfl (by kernel_rfl) (by kernel_rfl) (by kernel_rfl) (fun _ _ _ h => h) (Or.inl ⟨by kernel_rfl, ?_⟩) (by assumption) ?_
                  rotate_left; (intro w' hSw; (try dsimp only at hSw); go_split_ands; go_simp; (try with_reducible rfl))
                  try dsimp only [Act.put]
                  refine wpAnyH_ready (rs := [12]) (by kernel_rfl) (by simp) ?_
                  refine AllReadyH.cons (o := _) rfl (fun K hK => ?_) AllReadyH.nil
                  go_simp
                  refine hK.out _ _ (CC.out _ ND.out) (fun hH12 => ?_)
                  clear hK K
                  try dsimp only [Act.put]
                  refine wpAnyH_done (by kernel_rfl) ?_ _
                  refine NoPanic.normal ?_
                  go_simp
                  go_wp2
                  go_roundw
                  case rel => exact ⟨k + 1, by omega, by go_num, by rw [SS.out, Bool.false_or], ND⟩
                  case measure => simp [intOf]; omega
                · rw [hso, Bool.true_or] at SS
                  clear hso
                  go_wp2
                  refine wp_region_noPanic ?_
                  refine wp_region_held_drew (S := fun _ => True) (by kernel_rfl) (trivial) (fun hHeld => ?_)
                  generalize wr.drew = Vd at ND hHeld ⊢
                  refine wpAnyH_take (i := 0) (oi := _) (v := ?_) rfl (by kernel_rfl) (by kernel_rfl) (by kernel_rfl) (fun _ _ _ h => h) (Or.inl ⟨by kernel_rfl, ?_⟩) (by assumption) ?_
                  rotate_left; (intro w' hSw; (try dsimp only at hSw); go_split_ands; go_simp; (try with_reducible rfl))
                  try dsimp only [Act.put]
                  refine wpAnyH_take (i := 1) (oi := _) (v := ?_) rfl (by kernel_rfl) (by kernel_rfl) (by kernel_rfl) (fun _ _ _ h => h) (Or.inl ⟨by kernel_rfl, ?_⟩) (by assumption) ?_
                  rotate_left; (intro w' hSw; (try dsimp only at hSw); go_split_ands; go_simp; (try with_reducible rfl))
                  try dsimp only [Act.put]
                  refine wpAnyH_take (i := 2) (oi := _) (v := undef) rfl (by kernel_rfl) (by kernel_rfl) (by kernel_rfl) (fun _ _ _ h => h) (Or.inr ⟨by kernel_rfl, rfl⟩) (by assumption) ?_
                  try dsimp only [Act.put]
                  refine wpAnyH_take (i := 3) (oi := _) (v := undef) rfl (by kernel_rfl) (by kernel_rfl) (by kernel_rfl) (fun _ _ _ h => h) (Or.inr ⟨by kernel_rfl, rfl⟩) (by assumption) ?_
                  try dsimp only [Act.put]
                  refine wpAnyH_take (i := 4) (oi := _) (v := undef) rfl (by kernel_rfl) (by kernel_rfl) (by kernel_rfl) (fun _ _ _ h => h) (Or.inr ⟨by kernel_rfl, rfl⟩) (by assumption) ?_
                  try dsimp only [Act.put]
                  refine wpAnyH_take (i := 5) (oi := _) (v := undef) rfl (by kernel_rfl) (by kernel_rfl) (by kernel_rfl) (fun _ _ _ h => h) (Or.inr ⟨by kernel_rfl, rfl⟩) (by assumption) ?_
                  try dsimp only [Act.put]
                  refine wpAnyH_take (i := 6) (oi := _) (v := undef) rfl (by kernel_rfl) (by kernel_rfl) (by kernel_rfl) (fun _ _ _ h => h) (Or.inr ⟨by kernel_rfl, rfl⟩) (by assumption) ?_
                  try dsimp only [Act.put]
                  refine wpAnyH_take (i := 7) (oi := _) (v := undef) rfl (by kernel_rfl) (by kernel_rfl) (by kernel_rfl) (fun _ _ _ h => h) (Or.inr ⟨by kernel_rfl, rfl⟩) (by assumption) ?_
                  try dsimp only [Act.put]
                  refine wpAnyH_take (i := 8) (oi := _) (v := undef) rfl (by kernel_rfl) (by kernel_rfl) (by kernel_rfl) (fun _ _ _ h => h) (Or.inr ⟨by kernel_rfl, rfl⟩) (by assumption) ?_
                  try dsimp only [Act.put]
                  refine wpAnyH_take (i := 9) (oi := _) (v := undef) rfl (by kernel_rfl) (by kernel_rfl) (by kernel_rfl) (fun _ _ _ h => h) (Or.inr ⟨by kernel_rfl, rfl⟩) (by assumption) ?_
                  try dsimp only [Act.put]
                  refine wpAnyH_take (i := 10) (oi := _) (v := undef) rfl (by kernel_rfl) (by kernel_rfl) (by kernel_rfl) (fun _ _ _ h => h) (Or.inr ⟨by kernel_rfl, rfl⟩) (by assumption) ?_
                  try dsimp only [Act.put]
                  refine wpAnyH_take (i := 11) (oi := _) (v := ?_) rfl (by kernel_rfl) (by kernel_rfl) (by kernel_rfl) (fun _ _ _ h => h) (Or.inl ⟨by kernel_rfl, ?_⟩) (by assumption) ?_
                  rotate_left; (intro w' hSw; (try dsimp only at hSw); go_split_ands; go_simp; (try with_reducible rfl))
                  try dsimp only [Act.put]
                  refine wpAnyH_ready (rs := [12]) (by kernel_rfl) (by simp) ?_
                  refine AllReadyH.cons (o := _) rfl (fun K hK => ?_) AllReadyH.nil
                  go_simp
                  refine hK.out _ _ (trivial) (fun hH12 => ?_)
                  clear hK K
                  try dsimp only [Act.put]
                  refine wpAnyH_done (by kernel_rfl) ?_ _
                  refine NoPanic.normal ?_
                  go_simp
                  go_wp2
                  go_roundw
                  case rel => exact ⟨k + 1, by omega, by go_num, by rw [SS.out], ND⟩
                  case measure => simp [intOf]; omega
              · obtain rfl : M = k := by omega
                rw [ALL.out]
                go_wp2
                go_roundw
                case rel => exact ⟨i + 1, by omega, by go_num, HN⟩
                case measure => simp [intOf]; omega
          · obtain rfl : m1 = i := by omega
            go_wp2_with fail
            refine (ValidTasks_any _ M _ (flL L) (by omega) _ (SB.out.new HN.out)).mono ?_
            rw [VV.out]
            rintro e w9' ⟨rfl, N9⟩
            go_wp2
            go_ret
            exact ⟨by first | rfl | simp, NN.out.trans (HN.out.trans N9)⟩
end Go.Proofs.Ytecnhjofgkhlnaa
