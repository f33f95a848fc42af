/- The law FnDirtyRoots, walked: no dirty root is in another one, and each marked box is in one. Condition: the code can be read. -/
import Derived.Test.YteofjfglmngmnaaDrawDi
import Derived.Test.YteofjfglmngmnaaDirtyL
import Derived.Deep.RegionHeld3
namespace Go.Proofs.Yteofjfglmngmnaa
open Go.RowKit

set_option maxHeartbeats 4000000 in
theorem lawDirtyRoots (A : Option Addr) (n c : Nat) (hn : n ≤ maxLen) (hnc : n ≤ c) (w : World) (hb : Bytes w A n) :
    Calls Try.prog 10 #[.slice A n c] w fun e w' => e = .returned (.bool true) ∧ New w w' := by
  have HB := Lib.hid hb; have HM := Lib.hid hn
  clear hb
  unfold maxLen at hn
  by_cases hbig : 1048576 < n
  · go_enter Try.func10, Try.ntmps10
    go_wp2
    go_ret
    exact ⟨rfl, by (repeat (first | exact New.refl _ | assumption | refine New.alloc ?_ _ | refine New.drew ?_ | refine New.drewN ?_ _ | refine New.setCell ?_ (by first | omega | (simp; omega) | (simp; done)) _ | refine New.trans ?_ (by assumption)))⟩
  have hm : (n : Int) ≤ 1048576 := by omega
  have hm0 : (0 : Int) ≤ (n : Int) := by omega
  go_enter Try.func10, Try.ntmps10
  go_wp2_with fail
  refine (DrawDirtyRoots_any A n c HM.out hnc _ HB.out).mono ?_
  rintro e w1 ⟨B1, m1, d1, zs, B2, m2, d2, ms, rfl, I1, I2, l1, kd, l2, ld, S2, PC, N1a⟩
  have s1 := N1a.le
  have N1 := Lib.hid ((New.refl w).trans N1a); clear N1a
  replace I1 := Lib.hid I1
  replace I2 := Lib.hid I2
  have LM := Lib.hid I2.out.len
  by_cases hz : drA m1 zs ms = []
  · have HZ : Hid ((drA m1 zs ms).length = 0) := Lib.hid (by rw [hz]; rfl)
    clear hz
    go_wp2_with fail
    refine (DirtyRoots_ans B1 B2 m1 d1 m2 d2 zs ms (by omega) (by omega) _ I1.out I2.out).mono ?_
    rintro e w2 ⟨A2, n2, c2, rfl, l2, r2, N2a⟩
    have s2 := N2a.le
    have I1 := Lib.hid (I1.out.new N2a)
    have I2 := Lib.hid (I2.out.new N2a)
    have N2 := Lib.hid (N1.out.trans N2a); clear N2a
    obtain rfl : 0 = n2 := by have := HZ.out; omega
    have R2 := Lib.hid r2; clear l2 r2
    go_wp2_with fail
    refine (SDirtyRoots_ans B1 B2 m1 d1 m2 d2 zs ms (by omega) (by omega) _ I1.out I2.out).mono ?_
    rintro e w3 ⟨A3, n3, c3, rfl, l3, r3, N3a⟩
    have s3 := N3a.le
    have I1 := Lib.hid (I1.out.new N3a)
    have I2 := Lib.hid (I2.out.new N3a)
    have R2 := Lib.hid (R2.out.new N3a)
    have N3 := Lib.hid (N2.out.trans N3a); clear N3a
    obtain rfl : 0 = n3 := by have := HZ.out; omega
    have R3 := Lib.hid r3; clear l3 r3
    go_wp2_with fail
    refine (equalInts_any _ _ 0 0 _ _ _ _ (by omega) (by omega) _ (R2.out.ints HZ.out) (R3.out.ints HZ.out)).mono ?_
    rw [decide_eq_true rfl]
    rintro e w4 ⟨rfl, N4a⟩
    have s4 := N4a.le
    have I1 := Lib.hid (I1.out.new N4a)
    have I2 := Lib.hid (I2.out.new N4a)
    have R2 := Lib.hid (R2.out.new N4a)
    have R3 := Lib.hid (R3.out.new N4a)
    have N4 := Lib.hid (N3.out.trans N4a); clear N4a
    go_wp2_with fail
    refine (SDirtyRoots_ans B1 B2 m1 d1 m2 d2 zs ms (by omega) (by omega) _ I1.out I2.out).mono ?_
    rintro e w5 ⟨A5, n5, c5, rfl, l5, r5, N5a⟩
    have s5 := N5a.le
    have I1 := Lib.hid (I1.out.new N5a)
    have I2 := Lib.hid (I2.out.new N5a)
    have R2 := Lib.hid (R2.out.new N5a)
    have R3 := Lib.hid (R3.out.new N5a)
    have N5 := Lib.hid (N4.out.trans N5a); clear N5a
    obtain rfl : 0 = n5 := by have := HZ.out; omega
    have R5 := Lib.hid r5; clear l5 r5
    go_wp2_with fail
    refine (equalInts_any _ _ 0 0 _ _ _ _ (by omega) (by omega) _ (R2.out.ints HZ.out) (R5.out.ints HZ.out)).mono ?_
    rw [decide_eq_true rfl]
    rintro e w6 ⟨rfl, N6a⟩
    have s6 := N6a.le
    have I1 := Lib.hid (I1.out.new N6a)
    have I2 := Lib.hid (I2.out.new N6a)
    have R2 := Lib.hid (R2.out.new N6a)
    have R3 := Lib.hid (R3.out.new N6a)
    have R5 := Lib.hid (R5.out.new N6a)
    have N6 := Lib.hid (N5.out.trans N6a); clear N6a
    go_wp2
    go_ret
    exact ⟨rfl, N6.out⟩
  · have hok : marksB m1 zs ms = true := by cases hh : marksB m1 zs ms with | true => rfl | false => exact absurd (by unfold drA; rw [hh]; rfl) hz
    obtain ⟨nz, hnz⟩ : ∃ nz, (drA m1 zs ms).length = nz := ⟨_, rfl⟩
    have nz16 : nz ≤ 16 := by rw [← hnz]; exact drA_len
    have nz1 : 1 ≤ nz := by rw [← hnz]; exact List.length_pos_iff.2 hz
    have zi : (1 : Int) ≤ (nz : Int) := by omega
    have zj : (nz : Int) ≤ 16 := by omega
    have zb : ((nz : Int) == 0) = false := by simp; omega
    have HZ := Lib.hid hnz; have HOK := Lib.hid hok
    obtain ⟨hv, _, hms⟩ := mks_at hok
    obtain ⟨v0, v1⟩ := (vtB_iff.1 hv).1
    have V := Lib.hid hv; have MB := Lib.hid hms
    clear hz hnz hok hv hms
    go_wp2_with fail
    refine (DirtyRoots_ans B1 B2 m1 d1 m2 d2 zs ms (by omega) (by omega) _ I1.out I2.out).mono ?_
    rintro e w2 ⟨A2, n2, c2, rfl, l2, r2, N2a⟩
    have s2 := N2a.le
    have I1 := Lib.hid (I1.out.new N2a)
    have I2 := Lib.hid (I2.out.new N2a)
    have N2 := Lib.hid (N1.out.trans N2a); clear N2a
    obtain rfl : nz = n2 := by have := HZ.out; omega
    have R2 := Lib.hid r2; clear l2 r2
    go_wp2_with fail
    refine (SDirtyRoots_ans B1 B2 m1 d1 m2 d2 zs ms (by omega) (by omega) _ I1.out I2.out).mono ?_
    rintro e w3 ⟨A3, n3, c3, rfl, l3, r3, N3a⟩
    have s3 := N3a.le
    have I1 := Lib.hid (I1.out.new N3a)
    have I2 := Lib.hid (I2.out.new N3a)
    have R2 := Lib.hid (R2.out.new N3a)
    have N3 := Lib.hid (N2.out.trans N3a); clear N3a
    obtain rfl : nz = n3 := by have := HZ.out; omega
    have R3 := Lib.hid r3; clear l3 r3
    go_wp2_with fail
    refine (equalInts_any _ _ nz nz _ _ _ _ (by omega) (by omega) _ (R2.out.ints HZ.out) (R3.out.ints HZ.out)).mono ?_
    rw [decide_eq_true rfl]
    rintro e w4 ⟨rfl, N4a⟩
    have s4 := N4a.le
    have I1 := Lib.hid (I1.out.new N4a)
    have I2 := Lib.hid (I2.out.new N4a)
    have R2 := Lib.hid (R2.out.new N4a)
    have R3 := Lib.hid (R3.out.new N4a)
    have N4 := Lib.hid (N3.out.trans N4a); clear N4a
    have RT := Lib.hid (fun t (ht : t < (drA m1 zs ms).length) => drA_at HOK.out ht)
    have RM := Lib.hid (fun t (ht : t < (drA m1 zs ms).length) => root_marked HOK.out ht)
    have RA := Lib.hid (fun t u (ht : t < (drA m1 zs ms).length) (hu : u < (drA m1 zs ms).length) (hn : t ≠ u) => root_apart HOK.out ht hu hn)
    have RC := Lib.hid (fun k (hk : k < ms.length) => root_covers HOK.out hk)
    have AK := Lib.hid (fun a b (ha : a < m1) (hb : b < m1) => arA_at V.out ha hb)
    have NN := Lib.hid N4.out
    go_wp2
    go_loopw [6] (fun i wr => ∃ j : Nat, j ≤ nz ∧ i = .int .i64 j ∧ Hid (New w4 wr)) (fun i _ => nz - (intOf i).toNat)
    case atStart => exact ⟨0, Nat.zero_le _, rfl, Lib.hid (New.refl _)⟩
    case round =>
      obtain ⟨j, hj, rfl, HW⟩ := hrel
      have j0 : (0 : Int) ≤ (j : Int) := by omega
      have I3 := Lib.hid (I1.out.new HW.out)
      have M3 := Lib.hid (I2.out.new HW.out)
      have R3 := Lib.hid (R2.out.new HW.out)
      by_cases hlt : j < nz
      · have hl : j < (drA m1 zs ms).length := by rw [HZ.out]; exact hlt
        obtain ⟨b', off', rfl, hb', hc'⟩ := (R3.out.ints HZ.out).at_ (by omega)
        have g1 := hc' j hlt
        obtain ⟨u, hu, hum⟩ := RT.out j hl
        have mu := RM.out j hl
        rw [hu] at g1 mu
        have MU := Lib.hid mu
        have HU := Lib.hid hu
        have j1 : (j : Int) < (nz : Int) := by omega
        have HC' := Lib.hid hc'; have HB' := Lib.hid hb'
        clear mu hu hc' hb' hl
        go_wp2_with fail
        refine (lisIn_any B2 m2 d2 u ms (by omega) _ M3.out).mono ?_
        rw [show mk ms u = true from MU.out]
        rintro e w' ⟨rfl, rfl⟩
        obtain ⟨wo, rfl⟩ : ∃ x, x = wr := ⟨wr, rfl⟩
        go_wp2
        go_loopw [7] (fun i wz => ∃ t : Nat, t ≤ nz ∧ i = .int .i64 t ∧ Hid (New wo wz)) (fun i _ => nz - (intOf i).toNat)
        case atStart => exact ⟨0, Nat.zero_le _, rfl, Lib.hid (New.refl _)⟩
        case round =>
          obtain ⟨t, ht, rfl, HV⟩ := hrel
          have t0 : (0 : Int) ≤ (t : Int) := by omega
          by_cases htn : t < nz
          · have t1 : (t : Int) < (nz : Int) := by omega
            by_cases htj : j = t
            · subst htj
              go_wp2
              go_quiet (fail)
              go_wp2
              go_roundw
              case rel => exact ⟨j + 1, by omega, by go_num, Lib.hid (HV.out.drewN _)⟩
              case measure => simp [intOf]; omega
            · have tb : ((j : Int) == (t : Int)) = false := by simp; omega
              have tb2 : (j == t) = false := by simp; omega
              have tb3 : (j != t) = true := by simp; omega
              have tb4 : ((j : Int) != (t : Int)) = true := by simp; omega
              have I4 := Lib.hid (I3.out.new HV.out)
              have g2 := (HV.out.cells b' _ HB'.out).trans (HC'.out j hlt)
              have g3 := (HV.out.cells b' _ HB'.out).trans (HC'.out t htn)
              obtain ⟨v, hv, hvm⟩ := RT.out t (by rw [HZ.out]; exact htn)
              have ra := RA.out j t (by rw [HZ.out]; exact hlt) (by rw [HZ.out]; exact htn) htj
              rw [HU.out] at g2 ra
              rw [hv] at g3 ra
              rw [Int.toNat_natCast, Int.toNat_natCast] at ra
              have AV := Lib.hid ((AK.out u v hum hvm).trans ra)
              have hbw : b' < wr.drew.heap.size := Nat.lt_of_lt_of_le HB'.out HV.out.drew.le
              have K1 : wr.drew.cell? ⟨b', off' + j, none⟩ = some (.int .i64 (u : Int)) ∧ wr.drew.cell? ⟨b', off' + t, none⟩ = some (.int .i64 (v : Int)) := ⟨g2, g3⟩
              have K1h := Lib.hid K1
              have I5 := Lib.hid (I4.out.new (New.refl wr).drew)
              have HD := Lib.hid HV.out.drew
              have KF := Lib.hid (fun (W : World) (h : New wr.drew W) => (⟨(h.cells _ _ hbw).trans K1h.out.1, (h.cells _ _ hbw).trans K1h.out.2⟩ : W.cell? ⟨b', off' + j, none⟩ = some (.int .i64 (u : Int)) ∧ W.cell? ⟨b', off' + t, none⟩ = some (.int .i64 (v : Int))))
              clear ra hv g2 g3
              go_wp2
              go_region_held3 (fun w' => w'.cell? ⟨b', off' + j, none⟩ = some (.int .i64 (u : Int)) ∧ w'.cell? ⟨b', off' + t, none⟩ = some (.int .i64 (v : Int)))
                (first | exact K1 | exact K2 | assumption)
                (first | (go_at_call 44; refine (IsAround_any _ m1 d1 zs (u : Int) (v : Int) (by omega) _ I5.out).mono ?_; rw [AV.out]; rintro e wc ⟨rfl, Nc⟩; (have K2 := KF.out wc Nc); (replace Nc := Lib.hid (HD.out.trans Nc))))
              go_wp2
              go_roundw
              case rel => exact ⟨t + 1, by omega, by go_num, Nc⟩
              case measure => simp [intOf]; omega
          · obtain rfl : nz = t := by omega
            have NV := Lib.hid (HW.out.trans HV.out)
            go_wp2
            go_roundw
            case rel => exact ⟨j + 1, by omega, by go_num, NV⟩
            case measure => simp [intOf]; omega
      · obtain rfl : nz = j := by omega
        obtain ⟨wo, rfl⟩ : ∃ x, x = wr := ⟨wr, rfl⟩
        go_wp2
        go_loopw [8] (fun i wr => ∃ j : Nat, j ≤ m2 ∧ i = .int .i64 j ∧ Hid (New wo wr)) (fun i _ => m2 - (intOf i).toNat)
        case atStart => exact ⟨0, Nat.zero_le _, rfl, Lib.hid (New.refl _)⟩
        case round =>
          obtain ⟨j, hj, rfl, HV⟩ := hrel
          have j0 : (0 : Int) ≤ (j : Int) := by omega
          have i0 : (m2 : Int) ≤ 7 := by omega
          by_cases hlt : j < m2
          · have j1 : (j : Int) < (m2 : Int) := by omega
            have hz := MB.out _ (getD_in (show j < ms.length by rw [LM.out]; exact hlt))
            obtain ⟨q, hq, hqa⟩ := RC.out j (by rw [LM.out]; exact hlt)
            obtain ⟨z, hze⟩ := Int.eq_ofNat_of_zero_le hz.1
            rw [hze, Int.toNat_natCast] at hqa
            rw [hze] at hz
            have HQ := Lib.hid hq; have HQA := Lib.hid hqa; have HZE := Lib.hid hze
            have zm : z < m1 := by omega
            have SF := Lib.hid (fun t (htn : t < nz) (v : Nat) (hv : (drA m1 zs ms).getD t 0 = (v : Int)) (hvm : v < m1) => (AK.out v z hvm zm))
            clear hq hqa hze hz
            obtain ⟨wp, rfl⟩ : ∃ x, x = wr := ⟨wr, rfl⟩
            go_wp2
            go_loopw [9, 10] (fun s i wz => ∃ (t : Nat) (sm : Bool), t ≤ nz ∧ i = .int .i64 t ∧ s = .bool sm ∧ Hid (New wp wz) ∧ Hid (q < t → sm = true)) (fun _ i _ => nz - (intOf i).toNat)
            case atStart => exact ⟨0, false, Nat.zero_le _, rfl, rfl, Lib.hid (New.refl _), Lib.hid (fun h => absurd h (by omega))⟩
            case round =>
              obtain ⟨t, sm, ht, rfl, rfl, HX, HS⟩ := hrel
              have t0 : (0 : Int) ≤ (t : Int) := by omega
              by_cases htn : t < nz
              · have t1 : (t : Int) < (nz : Int) := by omega
                cases sm
                · have NX := Lib.hid (HV.out.trans HX.out)
                  have I5 := Lib.hid (I3.out.new NX.out)
                  have R5 := Lib.hid (R3.out.new NX.out); have M5 := Lib.hid (M3.out.new NX.out)
                  obtain ⟨b', off', rfl, hb', hc'⟩ := (R5.out.ints HZ.out).at_ (by omega)
                  obtain ⟨b2, off2, rfl, hb2, hc2⟩ := M5.out.at_ (by omega)
                  have g1 := hc' t htn
                  have g2 := hc2 j hlt
                  obtain ⟨v, hv, hvm⟩ := RT.out t (by rw [HZ.out]; exact htn)
                  have sf := SF.out t htn v hv hvm
                  rw [hv] at g1
                  rw [HZE.out] at g2
                  have HQ2 : Hid (q < t + 1 → anc zs v z = true) := Lib.hid (fun h => by
                    by_cases e : q < t
                    · have := HS.out e; cases this
                    · obtain rfl : q = t := by omega
                      have := HQA.out
                      rw [hv, Int.toNat_natCast] at this
                      exact this)
                  obtain ⟨av, hav⟩ : ∃ av, anc zs v z = av := ⟨_, rfl⟩
                  rw [hav] at sf HQ2
                  have SF2 := Lib.hid sf
                  have hbw : b' < wr.drew.heap.size := Nat.lt_of_lt_of_le hb' (New.refl wr).drew.le
                  have hbx : b2 < wr.drew.heap.size := Nat.lt_of_lt_of_le hb2 (New.refl wr).drew.le
                  have K1 : wr.drew.cell? ⟨b', off' + t, none⟩ = some (.int .i64 (v : Int)) ∧ wr.drew.cell? ⟨b2, off2 + j, none⟩ = some (.int .i64 (z : Int)) := ⟨g1, g2⟩
                  have K1h := Lib.hid K1
                  have I6 := Lib.hid (I5.out.new (New.refl wr).drew)
                  have HD := Lib.hid HX.out.drew
                  have KF := Lib.hid (fun (W : World) (h : New wr.drew W) => (⟨(h.cells _ _ hbw).trans K1h.out.1, (h.cells _ _ hbx).trans K1h.out.2⟩ : W.cell? ⟨b', off' + t, none⟩ = some (.int .i64 (v : Int)) ∧ W.cell? ⟨b2, off2 + j, none⟩ = some (.int .i64 (z : Int))))
                  clear hc' hc2 hb' hb2 sf hv g1 g2 hav
                  go_wp2
                  go_region_held3 (fun w' => w'.cell? ⟨b', off' + t, none⟩ = some (.int .i64 (v : Int)) ∧ w'.cell? ⟨b2, off2 + j, none⟩ = some (.int .i64 (z : Int)))
                    (first | exact K1 | exact K2 | assumption)
                    (first | (go_at_call 44; refine (IsAround_any _ m1 d1 zs (v : Int) (z : Int) (by omega) _ I6.out).mono ?_; rw [SF2.out]; rintro e wc ⟨rfl, Nc⟩; (have K2 := KF.out wc Nc); (replace Nc := Lib.hid (HD.out.trans Nc))))
                  go_wp2
                  go_roundw
                  case rel => exact ⟨t + 1, av, by omega, by go_num, by first | rfl | simp, Nc, HQ2⟩
                  case measure => simp [intOf]; omega
                · go_wp2
                  go_quiet (fail)
                  go_wp2
                  go_roundw
                  case rel => exact ⟨t + 1, true, by omega, by go_num, rfl, Lib.hid (HX.out.drewN _), Lib.hid (fun _ => rfl)⟩
                  case measure => simp [intOf]; omega
              · obtain rfl : nz = t := by omega
                have hs := HS.out (by have := HQ.out; have := HZ.out; omega)
                subst hs
                have NV := Lib.hid (HV.out.trans HX.out)
                go_wp2
                go_roundw
                case rel => exact ⟨j + 1, by omega, by go_num, NV⟩
                case measure => simp [intOf]; omega
          · obtain rfl : m2 = j := by omega
            go_wp2
            go_ret
            exact ⟨rfl, (NN.out.trans HW.out).trans HV.out⟩
end Go.Proofs.Yteofjfglmngmnaa
