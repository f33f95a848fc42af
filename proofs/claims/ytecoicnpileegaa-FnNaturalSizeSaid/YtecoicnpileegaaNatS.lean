/- The size that a box needs, in the reference, and NaturalSize and FitsIn of both, walked. Condition: the tree can be read. -/
import Derived.Test.YtecoicnpileegaaNatJ
import Derived.Deep.QuietTactic
import Derived.BigQuiet
namespace Go.Proofs.Ytecoicnpileegaa
open Go.RowKit

/-- What the reference's natural answers at a box. -/
def SNatAt (A : Option Addr) (n c : Nat) (zs : List Int) (i : Nat) : Prop :=
  ∀ w, Sts 9 w A n zs → Calls Try.prog 36 #[.slice A n c, .int .i64 (i : Int)] w fun e w' => e = .returned (.tuple #[.int .i64 (natL zs n i).1, .int .i64 (natL zs n i).2]) ∧ New w w'
set_option maxRecDepth 100000 in
set_option maxHeartbeats 4000000 in
theorem snatural_any (A : Option Addr) (n c : Nat) (zs : List Int) (hv : vtB n zs = true) (m : Nat) : ∀ i, n - i = m → i < n → SNatAt A n c zs i := by
  induction m using Nat.strongRecOn with
  | ind m ih =>
    intro i hm hi w hx
    have IH : Hid (∀ j ∈ kidL zs n i, SNatAt A n c zs j) := Lib.hid (fun j hj => by
      obtain ⟨_, h2, h3⟩ := (link_vt hv).kid_in hj
      exact ih (n - j) (by omega) j rfl h3)
    have HX := Lib.hid hx
    obtain ⟨b, off, rfl, hb, hc⟩ := hx.at_ (by omega)
    have hmx := fun (W : World) (ts : Array TypeId) (t : TypeId) (x y : Int) => run_mx Try.prog W ts t x y
    have hn16 := (vtB_iff.1 hv).1
    have k8 := kids_le (a := i) hv
    have PB := pad_bd hv hi
    have GB := gap_bd hv hi
    have KB := ((vtB_iff.1 hv).2 i hi).1.1
    have WB := ((vtB_iff.1 hv).2 i hi).1.2.1
    have HB := ((vtB_iff.1 hv).2 i hi).1.2.2.1
    have KD := Lib.hid (fun W hW => skids_any (some ⟨b, off, none⟩) n c i zs (by omega) hi (fun j hj => (link_vt hv).ups.not_kid hi hj) W hW)
    have i0 : (0 : Int) ≤ (i : Int) := by omega
    have i1 : (i : Int) < (n : Int) := by omega
    have g0 := hc (i * 9) (by omega)
    have g1 := hc (i * 9 + 1) (by omega)
    rw [← Nat.add_assoc] at g1
    have g2 := hc (i * 9 + 2) (by omega)
    rw [← Nat.add_assoc] at g2
    have g3 := hc (i * 9 + 3) (by omega)
    rw [← Nat.add_assoc] at g3
    have g4 := hc (i * 9 + 4) (by omega)
    rw [← Nat.add_assoc] at g4
    have g5 := hc (i * 9 + 5) (by omega)
    rw [← Nat.add_assoc] at g5
    have g6 := hc (i * 9 + 6) (by omega)
    rw [← Nat.add_assoc] at g6
    have g7 := hc (i * 9 + 7) (by omega)
    rw [← Nat.add_assoc] at g7
    have g8 := hc (i * 9 + 8) (by omega)
    rw [← Nat.add_assoc] at g8
    obtain ⟨kd, hkd⟩ : ∃ kd, knd zs i = kd := ⟨_, rfl⟩
    obtain ⟨pd, hpd⟩ : ∃ pd, zs.getD (i * 9 + 4) 0 = pd := ⟨_, rfl⟩
    obtain ⟨g, hgp⟩ : ∃ g, zs.getD (i * 9 + 5) 0 = g := ⟨_, rfl⟩
    rw [show zs.getD (i * 9 + 1) 0 = kd from hkd] at g1
    rw [hpd] at g4 PB
    rw [hgp] at g5 GB
    rw [hkd] at KB WB HB
    have m0 : 0 ≤ mx 0 (((kidL zs n i).length : Int) - 1) ∧ mx 0 (((kidL zs n i).length : Int) - 1) ≤ 7 := by unfold mx; omega
    have p0 : 0 ≤ mx 0 (((kidL zs n i).length : Int) - 1) * g := Int.mul_nonneg m0.1 GB.1
    have p1 : mx 0 (((kidL zs n i).length : Int) - 1) * g ≤ 1000 := by have := Int.mul_le_mul m0.2 GB.2 GB.1 (by omega : (0 : Int) ≤ 7); omega
    have pw : wrap64 (mx 0 (((kidL zs n i).length : Int) - 1) * g) = mx 0 (((kidL zs n i).length : Int) - 1) * g := w64s _ (IntWalk.i64_in _ (by omega))
    clear hc hx ih hm
    by_cases hk0 : kd = 0
    · subst hk0
      rw [if_pos rfl] at WB HB
      have NS := nat_step (link_vt hv) hi
      unfold contL contP at NS
      rw [hkd, if_pos rfl, hpd] at NS
      generalize zs.getD (i * 9 + 2) 0 = wd at *
      generalize zs.getD (i * 9 + 3) 0 = ht at *
      have E1 : Hid ((natL zs n i).1 = wd + 2 * pd) := Lib.hid (by rw [NS])
      have E2 : Hid ((natL zs n i).2 = ht + 2 * pd) := Lib.hid (by rw [NS])
      have pw1 : IntKind.i64.wrap (2 * pd) = 2 * pd := IntWalk.i64_in _ (by omega)
      have pw2 : IntKind.i64.wrap (wd + 2 * pd) = wd + 2 * pd := IntWalk.i64_in _ (by omega)
      have pw3 : IntKind.i64.wrap (ht + 2 * pd) = ht + 2 * pd := IntWalk.i64_in _ (by omega)
      clear NS hv hkd hpd hgp p0 p1 pw m0
      go_enter Try.func36, Try.ntmps36
      go_wp2
      go_quiet (fail)
      go_wp2
      go_ret2
      exact ⟨by rw [E1.out, E2.out]; rfl, by (repeat (first | exact New.refl _ | assumption | refine New.alloc ?_ _ | refine New.drew ?_ | refine New.drewN ?_ _ | refine New.setCell ?_ (by first | omega | (simp; omega) | (simp; done)) _ | refine New.trans ?_ (by assumption)))⟩
    · have kb0 : (kd == 0) = false := by simpa using hk0
      clear WB HB m0
      by_cases h2 : kd = 2
      · subst h2
        have NS := Lib.hid (show natL zs n i = ((sbs g (kidS zs n i)).1 + 2 * pd, (sbs g (kidS zs n i)).2 + 2 * pd) by
          have h := nat_step (link_vt hv) hi
          unfold contL contP at h
          rw [hkd, if_neg hk0, if_pos rfl, hpd, hgp] at h
          exact h)
        have sm := kidS_sm (n := n) (i := i) hv
        have SG := Lib.hid (fun t (ht : t < (kidL zs n i).length) => (show (kidS zs n i).getD t (0, 0) = ((natL zs n ((kidL zs n i).getD t 0)).1, (natL zs n ((kidL zs n i).getD t 0)).2) by
          simp [ht]))
        have SL : (kidS zs n i).length = (kidL zs n i).length := by simp
        have EX := Lib.hid (show accX (mx 0 (((kidL zs n i).length : Int) - 1) * g) (kidS zs n i) (kidL zs n i).length = (sbs g (kidS zs n i)).1 by
          unfold accX sbs; rw [List.take_of_length_le (by omega), SL, Int.mul_comm])
        have EY := Lib.hid (show accY (kidS zs n i) (kidL zs n i).length = (sbs g (kidS zs n i)).2 by unfold accY sbs; rw [List.take_of_length_le (by omega)])
        generalize hss : kidS zs n i = ss at *
        clear hss
        have BX := Lib.hid (fun k hk => accX_bd sm ⟨p0, p1⟩ k hk)
        have BY := Lib.hid (fun k hk => accY_bd sm k hk)
        have SM := Lib.hid (fun k => sm.at_ k)
        replace SL := Lib.hid SL
        clear hv hpd hgp hkd hk0 sm
        go_enter Try.func36, Try.ntmps36
        go_wp2_with fail
        refine (KD.out _ (HX.out.new (by (repeat (first | exact New.refl _ | assumption | refine New.alloc ?_ _ | refine New.drew ?_ | refine New.drewN ?_ _ | refine New.setCell ?_ (by first | omega | (simp; omega) | (simp; done)) _ | refine New.trans ?_ (by assumption)))))).mono ?_
        rintro e w2 ⟨v, rfl, O2, N2⟩
        have t1 := (N2.cells w.heap.size 1 (by simp)).trans (by simp [go_sem] : _ = some (Value.int .i64 2))
        have t4 := (N2.cells w.heap.size 4 (by simp)).trans (by simp [go_sem] : _ = some (Value.int .i64 pd))
        have t5 := (N2.cells w.heap.size 5 (by simp)).trans (by simp [go_sem] : _ = some (Value.int .i64 g))
        have z2 := N2.le
        simp at z2
        replace N2 := Lib.hid ((New.alloc (New.refl w) _).trans N2)
        obtain ⟨A2, c2, rfl, _, R2⟩ := O2.res
        rw [List.length_map] at *
        have I2 := Lib.hid (R2.ints (List.length_map _))
        obtain ⟨kn, hkn⟩ : ∃ kn, (kidL zs n i).length = kn := ⟨_, rfl⟩
        rw [hkn] at I2 k8 p0 p1 pw EX EY SG SL BX ⊢
        have HKN := Lib.hid hkn
        have kn8 : (kn : Int) ≤ 8 := by omega
        have kn0 : (0 : Int) ≤ (kn : Int) := by omega
        obtain ⟨bs, hbs⟩ : ∃ bs, mx 0 ((kn : Int) - 1) * g = bs := ⟨_, rfl⟩
        rw [hbs] at p0 p1 EX BX
        have T4 := Lib.hid t4; have T1 := Lib.hid t1
        clear R2 O2 hkn
        go_wp2
        go_loopw [8, 9, 10] (fun al ac x wr => ∃ t : Nat, t ≤ kn ∧ x = .int .i64 t ∧ al = .int .i64 (accX bs ss t) ∧ ac = .int .i64 (accY ss t) ∧ Hid (New w2 wr)) (fun _ _ x _ => kn - (intOf x).toNat)
        case atStart => exact ⟨0, Nat.zero_le _, rfl, by rw [show accX bs ss 0 = bs by simp [accX], ← hbs], rfl, Lib.hid (New.refl _)⟩
        case round =>
          obtain ⟨t, ht, rfl, rfl, rfl, HW⟩ := hrel
          have t0 : (0 : Int) ≤ (t : Int) := by omega
          by_cases hlt : t < kn
          · obtain ⟨b', off', rfl, hb', hc'⟩ := I2.out.at_ (by omega)
            have g1 := (HW.out.cells b' _ hb').trans (hc' t hlt)
            rw [kid_at] at g1
            have tk1 := (HW.out.cells w.heap.size 1 (by omega)).trans T1.out
            have sg := SG.out t hlt
            have S1 := accX_step bs ss t (by rw [SL.out]; exact hlt); have S2 := accY_step ss t (by rw [SL.out]; exact hlt)
            obtain ⟨⟨q0, q1⟩, q2, q3⟩ := SM.out t
            obtain ⟨x0, x1⟩ := BX.out t (by rw [SL.out]; omega)
            obtain ⟨z0, z1⟩ := BY.out t (by rw [SL.out]; omega)
            rw [sg] at S1 S2 q0 q1 q2 q3
            have hm : (kidL zs n i).getD t 0 ∈ kidL zs n i := kid_get (by rw [HKN.out]; exact hlt)
            have NA := Lib.hid (IH.out _ hm wr (HX.out.new (N2.out.trans HW.out)))
            have k1 : (t : Int) < (kn : Int) := by omega
            have x2 : accX bs ss t ≤ 1000000 := by omega
            generalize (kidL zs n i).getD t 0 = u at *
            generalize (natL zs n u).1 = x at *
            generalize (natL zs n u).2 = y at *
            have S1 := Lib.hid S1; have S2 := Lib.hid S2
            generalize accX bs ss t = X at *
            generalize accY ss t = Y at *
            clear hc' x1 sg hm
            go_wp2_with fail
            refine NA.out.mono ?_
            rintro e wc ⟨rfl, Nc⟩
            have tk2 := (Nc.cells w.heap.size 1 (Nat.lt_of_lt_of_le (by omega) HW.out.le)).trans tk1
            replace Nc := Lib.hid (HW.out.trans Nc)
            clear tk1
            go_wp2
            go_roundw
            case rel => exact ⟨t + 1, by omega, by go_num, by rw [S1.out], by rw [S2.out], Nc⟩
            case measure => simp [intOf]; omega
          · obtain rfl : t = kn := by omega
            have tk1 := (HW.out.cells w.heap.size 1 (by omega)).trans T1.out
            have tk4 := (HW.out.cells w.heap.size 4 (by omega)).trans T4.out
            obtain ⟨x0, x1⟩ := BX.out t (by rw [SL.out]; omega)
            obtain ⟨z0, z1⟩ := BY.out t (by rw [SL.out]; omega)
            have x2 : accX bs ss t ≤ 1000000 := by omega
            have EN : Hid (natL zs n i = (accX bs ss t + 2 * pd, accY ss t + 2 * pd)) := Lib.hid (by rw [EX.out, EY.out]; exact NS.out)
            have E1 : Hid ((natL zs n i).1 = accX bs ss t + 2 * pd) := Lib.hid (by rw [EN.out])
            have E2 : Hid ((natL zs n i).2 = accY ss t + 2 * pd) := Lib.hid (by rw [EN.out])
            generalize accX bs ss t = X at *
            generalize accY ss t = Y at *
            have pw1 : IntKind.i64.wrap (2 * pd) = 2 * pd := IntWalk.i64_in _ (by omega)
            have pw2 : IntKind.i64.wrap (X + 2 * pd) = X + 2 * pd := IntWalk.i64_in _ (by omega)
            have pw3 : IntKind.i64.wrap (Y + 2 * pd) = Y + 2 * pd := IntWalk.i64_in _ (by omega)
            go_wp2
            go_quiet (fail)
            go_wp2
            go_ret2
            exact ⟨by rw [E1.out, E2.out]; rfl, (N2.out.trans HW.out).drewN _⟩
      · have kb2 : (kd != 2) = true := by simpa using h2
        have kb3 : (kd == 2) = false := by simpa using h2
        have NS := Lib.hid (show natL zs n i = ((turnP (sbs g ((kidS zs n i).map turnP))).1 + 2 * pd, (turnP (sbs g ((kidS zs n i).map turnP))).2 + 2 * pd) by
          have h := nat_step (link_vt hv) hi
          unfold contL contP at h
          rw [hkd, if_neg hk0, if_neg h2, hpd, hgp] at h
          exact h)
        have sm := kidS_sm2 (n := n) (i := i) hv
        have SG := Lib.hid (fun t (ht : t < (kidL zs n i).length) => (show ((kidS zs n i).map turnP).getD t (0, 0) = ((natL zs n ((kidL zs n i).getD t 0)).2, (natL zs n ((kidL zs n i).getD t 0)).1) by
          rw [map_getD]; simp [ht, turnP]))
        have SL : ((kidS zs n i).map turnP).length = (kidL zs n i).length := by simp
        have EX := Lib.hid (show accX (mx 0 (((kidL zs n i).length : Int) - 1) * g) ((kidS zs n i).map turnP) (kidL zs n i).length = (sbs g ((kidS zs n i).map turnP)).1 by
          unfold accX sbs; rw [List.take_of_length_le (by omega), SL, Int.mul_comm])
        have EY := Lib.hid (show accY ((kidS zs n i).map turnP) (kidL zs n i).length = (sbs g ((kidS zs n i).map turnP)).2 by unfold accY sbs; rw [List.take_of_length_le (by omega)])
        generalize hss : (kidS zs n i).map turnP = ss at *
        clear hss
        have BX := Lib.hid (fun k hk => accX_bd sm ⟨p0, p1⟩ k hk)
        have BY := Lib.hid (fun k hk => accY_bd sm k hk)
        have SM := Lib.hid (fun k => sm.at_ k)
        replace SL := Lib.hid SL
        clear hv hpd hgp hkd hk0 sm
        go_enter Try.func36, Try.ntmps36
        go_wp2_with fail
        refine (KD.out _ (HX.out.new (by (repeat (first | exact New.refl _ | assumption | refine New.alloc ?_ _ | refine New.drew ?_ | refine New.drewN ?_ _ | refine New.setCell ?_ (by first | omega | (simp; omega) | (simp; done)) _ | refine New.trans ?_ (by assumption)))))).mono ?_
        rintro e w2 ⟨v, rfl, O2, N2⟩
        have t1 := (N2.cells w.heap.size 1 (by simp)).trans (by simp [go_sem] : _ = some (Value.int .i64 kd))
        have t4 := (N2.cells w.heap.size 4 (by simp)).trans (by simp [go_sem] : _ = some (Value.int .i64 pd))
        have t5 := (N2.cells w.heap.size 5 (by simp)).trans (by simp [go_sem] : _ = some (Value.int .i64 g))
        have z2 := N2.le
        simp at z2
        replace N2 := Lib.hid ((New.alloc (New.refl w) _).trans N2)
        obtain ⟨A2, c2, rfl, _, R2⟩ := O2.res
        rw [List.length_map] at *
        have I2 := Lib.hid (R2.ints (List.length_map _))
        obtain ⟨kn, hkn⟩ : ∃ kn, (kidL zs n i).length = kn := ⟨_, rfl⟩
        rw [hkn] at I2 k8 p0 p1 pw EX EY SG SL BX ⊢
        have HKN := Lib.hid hkn
        have kn8 : (kn : Int) ≤ 8 := by omega
        have kn0 : (0 : Int) ≤ (kn : Int) := by omega
        obtain ⟨bs, hbs⟩ : ∃ bs, mx 0 ((kn : Int) - 1) * g = bs := ⟨_, rfl⟩
        rw [hbs] at p0 p1 EX BX
        have T4 := Lib.hid t4; have T1 := Lib.hid t1
        clear R2 O2 hkn
        go_wp2
        go_loopw [8, 9, 10] (fun al ac x wr => ∃ t : Nat, t ≤ kn ∧ x = .int .i64 t ∧ al = .int .i64 (accX bs ss t) ∧ ac = .int .i64 (accY ss t) ∧ Hid (New w2 wr)) (fun _ _ x _ => kn - (intOf x).toNat)
        case atStart => exact ⟨0, Nat.zero_le _, rfl, by rw [show accX bs ss 0 = bs by simp [accX], ← hbs], rfl, Lib.hid (New.refl _)⟩
        case round =>
          obtain ⟨t, ht, rfl, rfl, rfl, HW⟩ := hrel
          have t0 : (0 : Int) ≤ (t : Int) := by omega
          by_cases hlt : t < kn
          · obtain ⟨b', off', rfl, hb', hc'⟩ := I2.out.at_ (by omega)
            have g1 := (HW.out.cells b' _ hb').trans (hc' t hlt)
            rw [kid_at] at g1
            have tk1 := (HW.out.cells w.heap.size 1 (by omega)).trans T1.out
            have sg := SG.out t hlt
            have S1 := accX_step bs ss t (by rw [SL.out]; exact hlt); have S2 := accY_step ss t (by rw [SL.out]; exact hlt)
            obtain ⟨⟨q0, q1⟩, q2, q3⟩ := SM.out t
            obtain ⟨x0, x1⟩ := BX.out t (by rw [SL.out]; omega)
            obtain ⟨z0, z1⟩ := BY.out t (by rw [SL.out]; omega)
            rw [sg] at S1 S2 q0 q1 q2 q3
            have hm : (kidL zs n i).getD t 0 ∈ kidL zs n i := kid_get (by rw [HKN.out]; exact hlt)
            have NA := Lib.hid (IH.out _ hm wr (HX.out.new (N2.out.trans HW.out)))
            have k1 : (t : Int) < (kn : Int) := by omega
            have x2 : accX bs ss t ≤ 1000000 := by omega
            generalize (kidL zs n i).getD t 0 = u at *
            generalize (natL zs n u).1 = x at *
            generalize (natL zs n u).2 = y at *
            have S1 := Lib.hid S1; have S2 := Lib.hid S2
            generalize accX bs ss t = X at *
            generalize accY ss t = Y at *
            clear hc' x1 sg hm
            go_wp2_with fail
            refine NA.out.mono ?_
            rintro e wc ⟨rfl, Nc⟩
            have tk2 := (Nc.cells w.heap.size 1 (Nat.lt_of_lt_of_le (by omega) HW.out.le)).trans tk1
            replace Nc := Lib.hid (HW.out.trans Nc)
            clear tk1
            go_wp2
            go_roundw
            case rel => exact ⟨t + 1, by omega, by go_num, by rw [S1.out], by rw [S2.out], Nc⟩
            case measure => simp [intOf]; omega
          · obtain rfl : t = kn := by omega
            have tk1 := (HW.out.cells w.heap.size 1 (by omega)).trans T1.out
            have tk4 := (HW.out.cells w.heap.size 4 (by omega)).trans T4.out
            obtain ⟨x0, x1⟩ := BX.out t (by rw [SL.out]; omega)
            obtain ⟨z0, z1⟩ := BY.out t (by rw [SL.out]; omega)
            have x2 : accX bs ss t ≤ 1000000 := by omega
            have EN : Hid (natL zs n i = (accY ss t + 2 * pd, accX bs ss t + 2 * pd)) := Lib.hid (by rw [EX.out, EY.out]; exact NS.out)
            have E1 : Hid ((natL zs n i).1 = accY ss t + 2 * pd) := Lib.hid (by rw [EN.out])
            have E2 : Hid ((natL zs n i).2 = accX bs ss t + 2 * pd) := Lib.hid (by rw [EN.out])
            generalize accX bs ss t = X at *
            generalize accY ss t = Y at *
            have pw1 : IntKind.i64.wrap (2 * pd) = 2 * pd := IntWalk.i64_in _ (by omega)
            have pw2 : IntKind.i64.wrap (X + 2 * pd) = X + 2 * pd := IntWalk.i64_in _ (by omega)
            have pw3 : IntKind.i64.wrap (Y + 2 * pd) = Y + 2 * pd := IntWalk.i64_in _ (by omega)
            go_wp2
            go_quiet (fail)
            go_wp2
            go_ret2
            exact ⟨by rw [E1.out, E2.out]; rfl, (N2.out.trans HW.out).drewN _⟩
end Go.Proofs.Ytecoicnpileegaa
