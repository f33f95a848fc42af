/- Parts that belong together: NatS, NatZ, NatP. Conditions: as each part says. -/
import Derived.Test.YtobnjagmakhgpaaZH
import Derived.Deep.QuietTactic
import Derived.BigQuiet
import Derived.Test.YtobnjagmakhgpaaZF
/- The size that a box needs, in the reference, and NaturalSize and FitsIn of both, walked. Condition: the tree can be read. -/
namespace Go.Proofs.Ytobnjagmakhgpaa
open Go.RowKit

/-- What the reference's natural answers at a box. -/
def SNatAt (A : Option Addr) (n c : Nat) (zs : List Int) (i : Nat) : Prop :=
  ∀ w, Sts 9 w A n zs → Calls Try.prog 62 #[.slice A n c, .int .i64 (i : Int)] w fun e w' => e = .returned (.tuple #[.int .i64 (natL zs n i).1, .int .i64 (natL zs n i).2]) ∧ New w w'
set_option maxRecDepth 100000 in
set_option maxHeartbeats 4000000 in
theorem snatural_any (A : Option Addr) (n c : Nat) (zs : List Int) (hv : vtB n zs = true) (m : Nat) : ∀ i, n - i = m → i < n → SNatAt A n c zs i := by
  induction m using Nat.strongRecOn with
  | ind m ih =>
    intro i hm hi w hx
    have IH : Hid (∀ j ∈ kidL zs n i, SNatAt A n c zs j) := Lib.hid (fun j hj => by
      obtain ⟨_, h2, h3⟩ := (link_vt hv).kid_in hj
      exact ih (n - j) (by omega) j rfl h3)
    have HX := Lib.hid hx
    obtain ⟨b, off, rfl, hb, hc⟩ := hx.at_ (by omega)
    have hmx := fun (W : World) (ts : Array TypeId) (t : TypeId) (x y : Int) => run_mx Try.prog W ts t x y
    have hn16 := (vtB_iff.1 hv).1
    have k8 := kids_le (a := i) hv
    have PB := pad_bd hv hi
    have GB := gap_bd hv hi
    have KB := ((vtB_iff.1 hv).2 i hi).1.1
    have WB := ((vtB_iff.1 hv).2 i hi).1.2.1
    have HB := ((vtB_iff.1 hv).2 i hi).1.2.2.1
    have KD := Lib.hid (fun W hW => skids_any (some ⟨b, off, none⟩) n c i zs (by omega) hi (fun j hj => (link_vt hv).ups.not_kid hi hj) W hW)
    have i0 : (0 : Int) ≤ (i : Int) := by omega
    have i1 : (i : Int) < (n : Int) := by omega
    have g0 := hc (i * 9) (by omega)
    have g1 := hc (i * 9 + 1) (by omega)
    rw [← Nat.add_assoc] at g1
    have g2 := hc (i * 9 + 2) (by omega)
    rw [← Nat.add_assoc] at g2
    have g3 := hc (i * 9 + 3) (by omega)
    rw [← Nat.add_assoc] at g3
    have g4 := hc (i * 9 + 4) (by omega)
    rw [← Nat.add_assoc] at g4
    have g5 := hc (i * 9 + 5) (by omega)
    rw [← Nat.add_assoc] at g5
    have g6 := hc (i * 9 + 6) (by omega)
    rw [← Nat.add_assoc] at g6
    have g7 := hc (i * 9 + 7) (by omega)
    rw [← Nat.add_assoc] at g7
    have g8 := hc (i * 9 + 8) (by omega)
    rw [← Nat.add_assoc] at g8
    obtain ⟨kd, hkd⟩ : ∃ kd, knd zs i = kd := ⟨_, rfl⟩
    obtain ⟨pd, hpd⟩ : ∃ pd, zs.getD (i * 9 + 4) 0 = pd := ⟨_, rfl⟩
    obtain ⟨g, hgp⟩ : ∃ g, zs.getD (i * 9 + 5) 0 = g := ⟨_, rfl⟩
    rw [show zs.getD (i * 9 + 1) 0 = kd from hkd] at g1
    rw [hpd] at g4 PB
    rw [hgp] at g5 GB
    rw [hkd] at KB WB HB
    have m0 : 0 ≤ mx 0 (((kidL zs n i).length : Int) - 1) ∧ mx 0 (((kidL zs n i).length : Int) - 1) ≤ 7 := by unfold mx; omega
    have p0 : 0 ≤ mx 0 (((kidL zs n i).length : Int) - 1) * g := Int.mul_nonneg m0.1 GB.1
    have p1 : mx 0 (((kidL zs n i).length : Int) - 1) * g ≤ 1000 := by have := Int.mul_le_mul m0.2 GB.2 GB.1 (by omega : (0 : Int) ≤ 7); omega
    have pw : wrap64 (mx 0 (((kidL zs n i).length : Int) - 1) * g) = mx 0 (((kidL zs n i).length : Int) - 1) * g := w64s _ (IntWalk.i64_in _ (by omega))
    clear hc hx ih hm
    by_cases hk0 : kd = 0
    · subst hk0
      rw [if_pos rfl] at WB HB
      have NS := nat_step (link_vt hv) hi
      unfold contL contP at NS
      rw [hkd, if_pos rfl, hpd] at NS
      generalize zs.getD (i * 9 + 2) 0 = wd at *
      generalize zs.getD (i * 9 + 3) 0 = ht at *
      have E1 : Hid ((natL zs n i).1 = wd + 2 * pd) := Lib.hid (by rw [NS])
      have E2 : Hid ((natL zs n i).2 = ht + 2 * pd) := Lib.hid (by rw [NS])
      have pw1 : IntKind.i64.wrap (2 * pd) = 2 * pd := IntWalk.i64_in _ (by omega)
      have pw2 : IntKind.i64.wrap (wd + 2 * pd) = wd + 2 * pd := IntWalk.i64_in _ (by omega)
      have pw3 : IntKind.i64.wrap (ht + 2 * pd) = ht + 2 * pd := IntWalk.i64_in _ (by omega)
      clear NS hv hkd hpd hgp p0 p1 pw m0
      go_enter Try.func62, Try.ntmps62
      go_wp2
      go_quiet (fail)
      go_wp2
      go_ret2
      exact ⟨by rw [E1.out, E2.out]; rfl, by (repeat (first | exact New.refl _ | assumption | refine New.alloc ?_ _ | refine New.drew ?_ | refine New.drewN ?_ _ | refine New.setCell ?_ (by first | omega | (simp; omega) | (simp; done)) _ | refine New.trans ?_ (by assumption)))⟩
    · have kb0 : (kd == 0) = false := by simpa using hk0
      clear WB HB m0
      by_cases h2 : kd = 2
      · subst h2
        have NS := Lib.hid (show natL zs n i = ((sbs g (kidS zs n i)).1 + 2 * pd, (sbs g (kidS zs n i)).2 + 2 * pd) by
          have h := nat_step (link_vt hv) hi
          unfold contL contP at h
          rw [hkd, if_neg hk0, if_pos rfl, hpd, hgp] at h
          exact h)
        have sm := kidS_sm (n := n) (i := i) hv
        have SG := Lib.hid (fun t (ht : t < (kidL zs n i).length) => (show (kidS zs n i).getD t (0, 0) = ((natL zs n ((kidL zs n i).getD t 0)).1, (natL zs n ((kidL zs n i).getD t 0)).2) by
          simp [ht]))
        have SL : (kidS zs n i).length = (kidL zs n i).length := by simp
        have EX := Lib.hid (show accX (mx 0 (((kidL zs n i).length : Int) - 1) * g) (kidS zs n i) (kidL zs n i).length = (sbs g (kidS zs n i)).1 by
          unfold accX sbs; rw [List.take_of_length_le (by omega), SL, Int.mul_comm])
        have EY := Lib.hid (show accY (kidS zs n i) (kidL zs n i).length = (sbs g (kidS zs n i)).2 by unfold accY sbs; rw [List.take_of_length_le (by omega)])
        generalize hss : kidS zs n i = ss at *
        clear hss
        have BX := Lib.hid (fun k hk => accX_bd sm ⟨p0, p1⟩ k hk)
        have BY := Lib.hid (fun k hk => accY_bd sm k hk)
        have SM := Lib.hid (fun k => sm.at_ k)
        replace SL := Lib.hid SL
        clear hv hpd hgp hkd hk0 sm
        go_enter Try.func62, Try.ntmps62
        go_wp2_with fail
        refine (KD.out _ (HX.out.new (by (repeat (first | exact New.refl _ | assumption | refine New.alloc ?_ _ | refine New.drew ?_ | refine New.drewN ?_ _ | refine New.setCell ?_ (by first | omega | (simp; omega) | (simp; done)) _ | refine New.trans ?_ (by assumption)))))).mono ?_
        rintro e w2 ⟨v, rfl, O2, N2⟩
        have t1 := (N2.cells w.heap.size 1 (by simp)).trans (by simp [go_sem] : _ = some (Value.int .i64 2))
        have t4 := (N2.cells w.heap.size 4 (by simp)).trans (by simp [go_sem] : _ = some (Value.int .i64 pd))
        have t5 := (N2.cells w.heap.size 5 (by simp)).trans (by simp [go_sem] : _ = some (Value.int .i64 g))
        have z2 := N2.le
        simp at z2
        replace N2 := Lib.hid ((New.alloc (New.refl w) _).trans N2)
        obtain ⟨A2, c2, rfl, _, R2⟩ := O2.res
        rw [List.length_map] at *
        have I2 := Lib.hid (R2.ints (List.length_map _))
        obtain ⟨kn, hkn⟩ : ∃ kn, (kidL zs n i).length = kn := ⟨_, rfl⟩
        rw [hkn] at I2 k8 p0 p1 pw EX EY SG SL BX ⊢
        have HKN := Lib.hid hkn
        have kn8 : (kn : Int) ≤ 8 := by omega
        have kn0 : (0 : Int) ≤ (kn : Int) := by omega
        obtain ⟨bs, hbs⟩ : ∃ bs, mx 0 ((kn : Int) - 1) * g = bs := ⟨_, rfl⟩
        rw [hbs] at p0 p1 EX BX
        have T4 := Lib.hid t4; have T1 := Lib.hid t1
        clear R2 O2 hkn
        go_wp2
        go_loopw [8, 9, 10] (fun al ac x wr => ∃ t : Nat, t ≤ kn ∧ x = .int .i64 t ∧ al = .int .i64 (accX bs ss t) ∧ ac = .int .i64 (accY ss t) ∧ Hid (New w2 wr)) (fun _ _ x _ => kn - (intOf x).toNat)
        case atStart => exact ⟨0, Nat.zero_le _, rfl, by rw [show accX bs ss 0 = bs by simp [accX], ← hbs], rfl, Lib.hid (New.refl _)⟩
        case round =>
          obtain ⟨t, ht, rfl, rfl, rfl, HW⟩ := hrel
          have t0 : (0 : Int) ≤ (t : Int) := by omega
          by_cases hlt : t < kn
          · obtain ⟨b', off', rfl, hb', hc'⟩ := I2.out.at_ (by omega)
            have g1 := (HW.out.cells b' _ hb').trans (hc' t hlt)
            rw [kid_at] at g1
            have tk1 := (HW.out.cells w.heap.size 1 (by omega)).trans T1.out
            have sg := SG.out t hlt
            have S1 := accX_step bs ss t (by rw [SL.out]; exact hlt); have S2 := accY_step ss t (by rw [SL.out]; exact hlt)
            obtain ⟨⟨q0, q1⟩, q2, q3⟩ := SM.out t
            obtain ⟨x0, x1⟩ := BX.out t (by rw [SL.out]; omega)
            obtain ⟨z0, z1⟩ := BY.out t (by rw [SL.out]; omega)
            rw [sg] at S1 S2 q0 q1 q2 q3
            have hm : (kidL zs n i).getD t 0 ∈ kidL zs n i := kid_get (by rw [HKN.out]; exact hlt)
            have NA := Lib.hid (IH.out _ hm wr (HX.out.new (N2.out.trans HW.out)))
            have k1 : (t : Int) < (kn : Int) := by omega
            have x2 : accX bs ss t ≤ 1000000 := by omega
            generalize (kidL zs n i).getD t 0 = u at *
            generalize (natL zs n u).1 = x at *
            generalize (natL zs n u).2 = y at *
            have S1 := Lib.hid S1; have S2 := Lib.hid S2
            generalize accX bs ss t = X at *
            generalize accY ss t = Y at *
            clear hc' x1 sg hm
            go_wp2_with fail
            refine NA.out.mono ?_
            rintro e wc ⟨rfl, Nc⟩
            have tk2 := (Nc.cells w.heap.size 1 (Nat.lt_of_lt_of_le (by omega) HW.out.le)).trans tk1
            replace Nc := Lib.hid (HW.out.trans Nc)
            clear tk1
            go_wp2
            go_roundw
            case rel => exact ⟨t + 1, by omega, by go_num, by rw [S1.out], by rw [S2.out], Nc⟩
            case measure => simp [intOf]; omega
          · obtain rfl : t = kn := by omega
            have tk1 := (HW.out.cells w.heap.size 1 (by omega)).trans T1.out
            have tk4 := (HW.out.cells w.heap.size 4 (by omega)).trans T4.out
            obtain ⟨x0, x1⟩ := BX.out t (by rw [SL.out]; omega)
            obtain ⟨z0, z1⟩ := BY.out t (by rw [SL.out]; omega)
            have x2 : accX bs ss t ≤ 1000000 := by omega
            have EN : Hid (natL zs n i = (accX bs ss t + 2 * pd, accY ss t + 2 * pd)) := Lib.hid (by rw [EX.out, EY.out]; exact NS.out)
            have E1 : Hid ((natL zs n i).1 = accX bs ss t + 2 * pd) := Lib.hid (by rw [EN.out])
            have E2 : Hid ((natL zs n i).2 = accY ss t + 2 * pd) := Lib.hid (by rw [EN.out])
            generalize accX bs ss t = X at *
            generalize accY ss t = Y at *
            have pw1 : IntKind.i64.wrap (2 * pd) = 2 * pd := IntWalk.i64_in _ (by omega)
            have pw2 : IntKind.i64.wrap (X + 2 * pd) = X + 2 * pd := IntWalk.i64_in _ (by omega)
            have pw3 : IntKind.i64.wrap (Y + 2 * pd) = Y + 2 * pd := IntWalk.i64_in _ (by omega)
            go_wp2
            go_quiet (fail)
            go_wp2
            go_ret2
            exact ⟨by rw [E1.out, E2.out]; rfl, (N2.out.trans HW.out).drewN _⟩
      · have kb2 : (kd != 2) = true := by simpa using h2
        have kb3 : (kd == 2) = false := by simpa using h2
        have NS := Lib.hid (show natL zs n i = ((turnP (sbs g ((kidS zs n i).map turnP))).1 + 2 * pd, (turnP (sbs g ((kidS zs n i).map turnP))).2 + 2 * pd) by
          have h := nat_step (link_vt hv) hi
          unfold contL contP at h
          rw [hkd, if_neg hk0, if_neg h2, hpd, hgp] at h
          exact h)
        have sm := kidS_sm2 (n := n) (i := i) hv
        have SG := Lib.hid (fun t (ht : t < (kidL zs n i).length) => (show ((kidS zs n i).map turnP).getD t (0, 0) = ((natL zs n ((kidL zs n i).getD t 0)).2, (natL zs n ((kidL zs n i).getD t 0)).1) by
          rw [map_getDP]; simp [ht, turnP]))
        have SL : ((kidS zs n i).map turnP).length = (kidL zs n i).length := by simp
        have EX := Lib.hid (show accX (mx 0 (((kidL zs n i).length : Int) - 1) * g) ((kidS zs n i).map turnP) (kidL zs n i).length = (sbs g ((kidS zs n i).map turnP)).1 by
          unfold accX sbs; rw [List.take_of_length_le (by omega), SL, Int.mul_comm])
        have EY := Lib.hid (show accY ((kidS zs n i).map turnP) (kidL zs n i).length = (sbs g ((kidS zs n i).map turnP)).2 by unfold accY sbs; rw [List.take_of_length_le (by omega)])
        generalize hss : (kidS zs n i).map turnP = ss at *
        clear hss
        have BX := Lib.hid (fun k hk => accX_bd sm ⟨p0, p1⟩ k hk)
        have BY := Lib.hid (fun k hk => accY_bd sm k hk)
        have SM := Lib.hid (fun k => sm.at_ k)
        replace SL := Lib.hid SL
        clear hv hpd hgp hkd hk0 sm
        go_enter Try.func62, Try.ntmps62
        go_wp2_with fail
        refine (KD.out _ (HX.out.new (by (repeat (first | exact New.refl _ | assumption | refine New.alloc ?_ _ | refine New.drew ?_ | refine New.drewN ?_ _ | refine New.setCell ?_ (by first | omega | (simp; omega) | (simp; done)) _ | refine New.trans ?_ (by assumption)))))).mono ?_
        rintro e w2 ⟨v, rfl, O2, N2⟩
        have t1 := (N2.cells w.heap.size 1 (by simp)).trans (by simp [go_sem] : _ = some (Value.int .i64 kd))
        have t4 := (N2.cells w.heap.size 4 (by simp)).trans (by simp [go_sem] : _ = some (Value.int .i64 pd))
        have t5 := (N2.cells w.heap.size 5 (by simp)).trans (by simp [go_sem] : _ = some (Value.int .i64 g))
        have z2 := N2.le
        simp at z2
        replace N2 := Lib.hid ((New.alloc (New.refl w) _).trans N2)
        obtain ⟨A2, c2, rfl, _, R2⟩ := O2.res
        rw [List.length_map] at *
        have I2 := Lib.hid (R2.ints (List.length_map _))
        obtain ⟨kn, hkn⟩ : ∃ kn, (kidL zs n i).length = kn := ⟨_, rfl⟩
        rw [hkn] at I2 k8 p0 p1 pw EX EY SG SL BX ⊢
        have HKN := Lib.hid hkn
        have kn8 : (kn : Int) ≤ 8 := by omega
        have kn0 : (0 : Int) ≤ (kn : Int) := by omega
        obtain ⟨bs, hbs⟩ : ∃ bs, mx 0 ((kn : Int) - 1) * g = bs := ⟨_, rfl⟩
        rw [hbs] at p0 p1 EX BX
        have T4 := Lib.hid t4; have T1 := Lib.hid t1
        clear R2 O2 hkn
        go_wp2
        go_loopw [8, 9, 10] (fun al ac x wr => ∃ t : Nat, t ≤ kn ∧ x = .int .i64 t ∧ al = .int .i64 (accX bs ss t) ∧ ac = .int .i64 (accY ss t) ∧ Hid (New w2 wr)) (fun _ _ x _ => kn - (intOf x).toNat)
        case atStart => exact ⟨0, Nat.zero_le _, rfl, by rw [show accX bs ss 0 = bs by simp [accX], ← hbs], rfl, Lib.hid (New.refl _)⟩
        case round =>
          obtain ⟨t, ht, rfl, rfl, rfl, HW⟩ := hrel
          have t0 : (0 : Int) ≤ (t : Int) := by omega
          by_cases hlt : t < kn
          · obtain ⟨b', off', rfl, hb', hc'⟩ := I2.out.at_ (by omega)
            have g1 := (HW.out.cells b' _ hb').trans (hc' t hlt)
            rw [kid_at] at g1
            have tk1 := (HW.out.cells w.heap.size 1 (by omega)).trans T1.out
            have sg := SG.out t hlt
            have S1 := accX_step bs ss t (by rw [SL.out]; exact hlt); have S2 := accY_step ss t (by rw [SL.out]; exact hlt)
            obtain ⟨⟨q0, q1⟩, q2, q3⟩ := SM.out t
            obtain ⟨x0, x1⟩ := BX.out t (by rw [SL.out]; omega)
            obtain ⟨z0, z1⟩ := BY.out t (by rw [SL.out]; omega)
            rw [sg] at S1 S2 q0 q1 q2 q3
            have hm : (kidL zs n i).getD t 0 ∈ kidL zs n i := kid_get (by rw [HKN.out]; exact hlt)
            have NA := Lib.hid (IH.out _ hm wr (HX.out.new (N2.out.trans HW.out)))
            have k1 : (t : Int) < (kn : Int) := by omega
            have x2 : accX bs ss t ≤ 1000000 := by omega
            generalize (kidL zs n i).getD t 0 = u at *
            generalize (natL zs n u).1 = x at *
            generalize (natL zs n u).2 = y at *
            have S1 := Lib.hid S1; have S2 := Lib.hid S2
            generalize accX bs ss t = X at *
            generalize accY ss t = Y at *
            clear hc' x1 sg hm
            go_wp2_with fail
            refine NA.out.mono ?_
            rintro e wc ⟨rfl, Nc⟩
            have tk2 := (Nc.cells w.heap.size 1 (Nat.lt_of_lt_of_le (by omega) HW.out.le)).trans tk1
            replace Nc := Lib.hid (HW.out.trans Nc)
            clear tk1
            go_wp2
            go_roundw
            case rel => exact ⟨t + 1, by omega, by go_num, by rw [S1.out], by rw [S2.out], Nc⟩
            case measure => simp [intOf]; omega
          · obtain rfl : t = kn := by omega
            have tk1 := (HW.out.cells w.heap.size 1 (by omega)).trans T1.out
            have tk4 := (HW.out.cells w.heap.size 4 (by omega)).trans T4.out
            obtain ⟨x0, x1⟩ := BX.out t (by rw [SL.out]; omega)
            obtain ⟨z0, z1⟩ := BY.out t (by rw [SL.out]; omega)
            have x2 : accX bs ss t ≤ 1000000 := by omega
            have EN : Hid (natL zs n i = (accY ss t + 2 * pd, accX bs ss t + 2 * pd)) := Lib.hid (by rw [EX.out, EY.out]; exact NS.out)
            have E1 : Hid ((natL zs n i).1 = accY ss t + 2 * pd) := Lib.hid (by rw [EN.out])
            have E2 : Hid ((natL zs n i).2 = accX bs ss t + 2 * pd) := Lib.hid (by rw [EN.out])
            generalize accX bs ss t = X at *
            generalize accY ss t = Y at *
            have pw1 : IntKind.i64.wrap (2 * pd) = 2 * pd := IntWalk.i64_in _ (by omega)
            have pw2 : IntKind.i64.wrap (X + 2 * pd) = X + 2 * pd := IntWalk.i64_in _ (by omega)
            have pw3 : IntKind.i64.wrap (Y + 2 * pd) = Y + 2 * pd := IntWalk.i64_in _ (by omega)
            go_wp2
            go_quiet (fail)
            go_wp2
            go_ret2
            exact ⟨by rw [E1.out, E2.out]; rfl, (N2.out.trans HW.out).drewN _⟩
end Go.Proofs.Ytobnjagmakhgpaa

/- NaturalSize, FitsIn and WidestKid of the program and of the reference, walked: both answer alike. Condition: the tree can be read. -/
namespace Go.Proofs.Ytobnjagmakhgpaa
open Go.RowKit

def natW (n : Nat) (zs : List Int) (at_ : Int) : Int := if nodeOk n zs at_ = true then (natL zs n at_.toNat).1 else 0
def natH (n : Nat) (zs : List Int) (at_ : Int) : Int := if nodeOk n zs at_ = true then (natL zs n at_.toNat).2 else 0
def fitB (n : Nat) (zs : List Int) (w h : Int) : Bool := vtB n zs && decide ((natL zs n 0).1 ≤ w) && decide ((natL zs n 0).2 ≤ h)
/-- The widest of the first k boxes of a list, and how wide it is. -/
def widF (f : Nat → Int) : List Nat → Int × Int → Int × Int
  | [], s => s
  | j :: l, s => widF f l (if s.2 < f j then ((j : Int), f j) else s)
def widA (n : Nat) (zs : List Int) (at_ : Int) : Int := if nodeOk n zs at_ = true then (widF (fun j => (natL zs n j).1) (kidL zs n at_.toNat) (-1, -1)).1 else -1
section
variable {n i : Nat} {zs : List Int} {at_ : Int}
theorem natW_at (h : vtB n zs = true) (hi : i < n) : natW n zs (i : Int) = (natL zs n i).1 := by unfold natW; rw [if_pos (nodeOk_iff.2 ⟨h, i, rfl, hi⟩), Int.toNat_natCast]
theorem natH_at (h : vtB n zs = true) (hi : i < n) : natH n zs (i : Int) = (natL zs n i).2 := by unfold natH; rw [if_pos (nodeOk_iff.2 ⟨h, i, rfl, hi⟩), Int.toNat_natCast]
theorem natW_no (h : nodeOk n zs at_ = false) : natW n zs at_ = 0 := by unfold natW; rw [h]; rfl
theorem natH_no (h : nodeOk n zs at_ = false) : natH n zs at_ = 0 := by unfold natH; rw [h]; rfl
theorem fit_no {w h : Int} (hv : vtB n zs = false) : fitB n zs w h = false := by unfold fitB; rw [hv]; rfl
end
set_option maxHeartbeats 1000000 in
theorem NaturalSize_any (A : Option Addr) (n c : Nat) (zs : List Int) (at_ : Int) (hn : n ≤ 1048576) (w : World) (hx : Sts 9 w A n zs) :
    Calls Try.prog 14 #[.slice A n c, .int .i64 at_] w fun e w' => e = .returned (.tuple #[.int .i64 (natW n zs at_), .int .i64 (natH n zs at_), .bool (nodeOk n zs at_)]) ∧ New w w' := by
  cases hok : nodeOk n zs at_
  · rw [natW_no hok, natH_no hok]
    have CT := Lib.hid (nodeAt_no A n c zs at_ hn hok w hx)
    clear hok hx
    go_enter Try.func14, Try.ntmps14
    go_wp2_with (go_at_call 44; refine CT.out.mono ?_; rintro e w1 ⟨rfl, h1⟩; (have N1 := Lib.hid h1); clear h1)
    exact bodyPost_ret (v := .tuple #[.int .i64 0, .int .i64 0, .bool false]) (by simp [results, Try.results14, go_sem]) rfl ⟨rfl, N1.out⟩
  · obtain ⟨hv, i, rfl, hi⟩ := nodeOk_iff.1 hok
    rw [natW_at hv hi, natH_at hv hi]
    have CT := Lib.hid (nodeAt_yes A n c i zs hv hi w hx)
    have NA := Lib.hid (fun (lo : Nat) nb ar fi la ne => natural_any lo nb zs n ar fi la ne hv (n - i) i rfl hi)
    clear hok hx hv
    generalize hX : (natL zs n i).1 = X at *
    generalize hY : (natL zs n i).2 = Y at *
    have HX := Lib.hid hX; have HY := Lib.hid hY
    clear hX hY
    go_enter Try.func14, Try.ntmps14
    go_wp2_with fail
    refine CT.out.mono ?_
    rintro e w1 ⟨h1, nb, ar, fi, la, ne, rfl, h2⟩
    have N1 := Lib.hid h1
    have NC := NA.out _ nb ar fi la ne w1 h2
    rw [HX.out, HY.out] at NC
    replace NC := Lib.hid NC
    clear h1 h2
    go_wp2_with (go_at_call 46; refine NC.out.mono ?_; rintro e w2 ⟨rfl, N2⟩; (replace N2 := Lib.hid (N1.out.trans N2)))
    go_quiet (fail)
    go_wp2
    exact bodyPost_ret (v := .tuple #[.int .i64 X, .int .i64 Y, .bool true]) (by simp [results, Try.results14, go_sem]) rfl ⟨rfl, by (repeat (first | exact New.refl _ | assumption | refine New.alloc ?_ _ | refine New.drew ?_ | refine New.drewN ?_ _ | refine New.setCell ?_ (by first | omega | (simp; omega) | (simp; done)) _ | refine New.trans ?_ (by assumption)))⟩
set_option maxHeartbeats 1000000 in
theorem SNaturalSize_any (A : Option Addr) (n c : Nat) (zs : List Int) (at_ : Int) (hn : n ≤ 1048576) (w : World) (hx : Sts 9 w A n zs) :
    Calls Try.prog 25 #[.slice A n c, .int .i64 at_] w fun e w' => e = .returned (.tuple #[.int .i64 (natW n zs at_), .int .i64 (natH n zs at_), .bool (nodeOk n zs at_)]) ∧ New w w' := by
  have HX := Lib.hid hx
  have CT := Lib.hid (svalidTree_any A n c zs hn w hx)
  have n0 : (0 : Int) ≤ (n : Int) := by omega
  have n1 : (n : Int) ≤ 1048576 := by omega
  clear hx
  cases hv : vtB n zs
  · have hok : nodeOk n zs at_ = false := by unfold nodeOk; rw [hv]; rfl
    rw [natW_no hok, natH_no hok, hok]
    have HV := Lib.hid hv
    clear hv hok
    go_enter Try.func25, Try.ntmps25
    go_wp2_with (go_at_call 41; refine CT.out.mono ?_; rw [HV.out]; rintro e w1 ⟨rfl, h1⟩; (have N1 := Lib.hid h1); clear h1)
    exact bodyPost_ret (v := .tuple #[.int .i64 0, .int .i64 0, .bool false]) (by simp [results, Try.results25, go_sem]) rfl ⟨rfl, N1.out⟩
  · have HV := Lib.hid hv
    cases hd : decide (0 ≤ at_ ∧ at_ ≤ (n : Int) - 1)
    · have hok : nodeOk n zs at_ = false := by unfold nodeOk; rw [hv, hd]; rfl
      rw [natW_no hok, natH_no hok, hok]
      clear hv hok
      go_enter Try.func25, Try.ntmps25
      go_wp2_with (first
        | (go_at_call 41; refine CT.out.mono ?_; rw [HV.out]; rintro e w1 ⟨rfl, h1⟩; (have N1 := Lib.hid h1); clear h1)
        | (go_at_call 42; refine (inRange_any _ _ _ _).mono ?_; rw [hd]; rintro e w' ⟨rfl, rfl⟩))
      exact bodyPost_ret (v := .tuple #[.int .i64 0, .int .i64 0, .bool false]) (by simp [results, Try.results25, go_sem]) rfl ⟨rfl, N1.out⟩
    · have hok : nodeOk n zs at_ = true := by unfold nodeOk; rw [hv, hd]; rfl
      rw [hok]
      obtain ⟨_, i, rfl, hi⟩ := nodeOk_iff.1 hok
      rw [natW_at hv hi, natH_at hv hi]
      have NA := Lib.hid (snatural_any A n c zs hv (n - i) i rfl hi)
      clear hv hok
      generalize hX : (natL zs n i).1 = X at *
      generalize hY : (natL zs n i).2 = Y at *
      have HX2 := Lib.hid hX; have HY2 := Lib.hid hY
      clear hX hY
      go_enter Try.func25, Try.ntmps25
      go_wp2_with fail
      refine CT.out.mono ?_
      rw [HV.out]
      rintro e w1 ⟨rfl, h1⟩
      have N1 := Lib.hid h1
      have NC := NA.out w1 (HX.out.new h1)
      rw [HX2.out, HY2.out] at NC
      replace NC := Lib.hid NC
      clear h1
      go_wp2_with fail
      refine (inRange_any _ _ _ _).mono ?_
      rw [hd]
      rintro e w' ⟨rfl, rfl⟩
      go_wp2_with (go_at_call 62; refine NC.out.mono ?_; rintro e w2 ⟨rfl, N2⟩; (replace N2 := Lib.hid (N1.out.trans N2)))
      exact bodyPost_ret (v := .tuple #[.int .i64 X, .int .i64 Y, .bool true]) (by simp [results, Try.results25, go_sem]) rfl ⟨rfl, N2.out⟩
theorem widF_snoc (f : Nat → Int) : ∀ (l : List Nat) (j : Nat) (s : Int × Int), widF f (l ++ [j]) s = if (widF f l s).2 < f j then ((j : Int), f j) else widF f l s
  | [], _, _ => rfl
  | x :: l, j, s => by simp only [List.cons_append, widF]; exact widF_snoc f l j _
end Go.Proofs.Ytobnjagmakhgpaa

/- Plain facts on natural sizes for the laws of chapter 5: the widest of a box's boxes, and how wide a box of boxes is. -/
namespace Go.Proofs.Ytobnjagmakhgpaa
open Go.RowKit

theorem widF_mem (f : Nat → Int) : ∀ (l : List Nat) (s : Int × Int), (widF f l s = s ∨ ∃ j ∈ l, widF f l s = ((j : Int), f j)) ∧ s.2 ≤ (widF f l s).2 ∧ ∀ x ∈ l, f x ≤ (widF f l s).2
  | [], s => ⟨Or.inl rfl, Int.le_refl _, fun _ h => absurd h List.not_mem_nil⟩
  | j :: l, s => by
    obtain ⟨h1, h2, h3⟩ := widF_mem f l (if s.2 < f j then ((j : Int), f j) else s)
    have e : widF f (j :: l) s = widF f l (if s.2 < f j then ((j : Int), f j) else s) := rfl
    rw [e]
    by_cases hlt : s.2 < f j
    · rw [if_pos hlt] at h1 h2 h3 ⊢
      refine ⟨Or.inr ?_, by omega, fun x hx => ?_⟩
      · rcases h1 with h1 | ⟨k, hk, h1⟩
        · exact ⟨j, List.mem_cons_self, h1⟩
        · exact ⟨k, List.mem_cons_of_mem _ hk, h1⟩
      · rcases List.mem_cons.1 hx with rfl | hx
        · exact h2
        · exact h3 x hx
    · rw [if_neg hlt] at h1 h2 h3 ⊢
      refine ⟨?_, h2, fun x hx => ?_⟩
      · rcases h1 with h1 | ⟨k, hk, h1⟩
        · exact Or.inl h1
        · exact Or.inr ⟨k, List.mem_cons_of_mem _ hk, h1⟩
      · rcases List.mem_cons.1 hx with rfl | hx
        · omega
        · exact h3 x hx
theorem widA_no {n : Nat} {zs : List Int} {at_ : Int} (h : nodeOk n zs at_ = false) : widA n zs at_ = -1 := by unfold widA; rw [h]; rfl
/-- The widest of a box's boxes is one of them, and no other is wider. -/
theorem widA_at {n i : Nat} {zs : List Int} (hv : vtB n zs = true) (hi : i < n) (h0 : 0 < (kidL zs n i).length) : ∃ j, j ∈ kidL zs n i ∧ j < n ∧ widA n zs (i : Int) = (j : Int) ∧ (natL zs n j).1 = foldMx ((kidL zs n i).map fun x => (natL zs n x).1) := by
  have e : widA n zs (i : Int) = (widF (fun j => (natL zs n j).1) (kidL zs n i) (-1, -1)).1 := by unfold widA; rw [if_pos (nodeOk_iff.2 ⟨hv, i, rfl, hi⟩), Int.toNat_natCast]
  obtain ⟨h1, _, h3⟩ := widF_mem (fun j => (natL zs n j).1) (kidL zs n i) (-1, -1)
  have hg : ∀ x ∈ kidL zs n i, 0 ≤ (natL zs n x).1 := fun x hx => (nat_bd hv (kid_mem.1 hx).1).1
  rcases h1 with h1 | ⟨j, hj, h1⟩
  · exfalso
    have hm := kid_get h0
    have h4 := h3 _ hm
    have h5 := hg _ hm
    rw [h1] at h4
    dsimp only at h4
    omega
  · refine ⟨j, hj, (kid_mem.1 hj).1, by rw [e, h1], ?_⟩
    rw [h1] at h3
    dsimp only at h3
    have hge := (foldMx_ge ((kidL zs n i).map fun x => (natL zs n x).1)).2 _ (List.mem_map.2 ⟨j, hj, rfl⟩)
    have hle := foldMx_le ((kidL zs n i).map fun x => (natL zs n x).1) (hg j hj) (fun y hy => by
      obtain ⟨x, hx, rfl⟩ := List.mem_map.1 hy
      exact h3 x hx)
    omega
theorem widF_first (f : Nat → Int) : ∀ (l : List Nat) (s : Int × Int), l.Pairwise (· < ·) → (widF f l s = s ∧ ∀ x ∈ l, f x ≤ s.2) ∨ ∃ j ∈ l, widF f l s = ((j : Int), f j) ∧ s.2 < f j ∧ ∀ x ∈ l, f x ≤ f j ∧ (f x = f j → j ≤ x)
  | [], _, _ => Or.inl ⟨rfl, fun _ h => absurd h List.not_mem_nil⟩
  | j :: l, s, hp => by
    obtain ⟨hp1, hp2⟩ := List.pairwise_cons.1 hp
    have h1 := widF_first f l (if s.2 < f j then ((j : Int), f j) else s) hp2
    have e : widF f (j :: l) s = widF f l (if s.2 < f j then ((j : Int), f j) else s) := rfl
    rw [e]
    by_cases hlt : s.2 < f j
    · rw [if_pos hlt] at h1 ⊢
      right
      rcases h1 with ⟨h1, h2⟩ | ⟨k, hk, h1, h2, h3⟩
      · refine ⟨j, List.mem_cons_self, h1, hlt, fun x hx => ?_⟩
        rcases List.mem_cons.1 hx with rfl | hx
        · exact ⟨Int.le_refl _, fun _ => Nat.le_refl _⟩
        · exact ⟨h2 x hx, fun _ => Nat.le_of_lt (hp1 x hx)⟩
      · dsimp only at h2
        refine ⟨k, List.mem_cons_of_mem _ hk, h1, by omega, fun x hx => ?_⟩
        rcases List.mem_cons.1 hx with rfl | hx
        · exact ⟨by omega, fun h => by omega⟩
        · exact h3 x hx
    · rw [if_neg hlt] at h1 ⊢
      rcases h1 with ⟨h1, h2⟩ | ⟨k, hk, h1, h2, h3⟩
      · refine Or.inl ⟨h1, fun x hx => ?_⟩
        rcases List.mem_cons.1 hx with rfl | hx
        · omega
        · exact h2 x hx
      · refine Or.inr ⟨k, List.mem_cons_of_mem _ hk, h1, h2, fun x hx => ?_⟩
        rcases List.mem_cons.1 hx with rfl | hx
        · exact ⟨by omega, fun h => by omega⟩
        · exact h3 x hx
/-- The widest of a box's boxes is the first of those that are as wide. -/
theorem widA_first {n i : Nat} {zs : List Int} (hv : vtB n zs = true) (hi : i < n) (h0 : 0 < (kidL zs n i).length) : ∃ j, j ∈ kidL zs n i ∧ j < n ∧ widA n zs (i : Int) = (j : Int) ∧ ∀ x ∈ kidL zs n i, (natL zs n x).1 ≤ (natL zs n j).1 ∧ ((natL zs n x).1 = (natL zs n j).1 → j ≤ x) := by
  have e : widA n zs (i : Int) = (widF (fun j => (natL zs n j).1) (kidL zs n i) (-1, -1)).1 := by unfold widA; rw [if_pos (nodeOk_iff.2 ⟨hv, i, rfl, hi⟩), Int.toNat_natCast]
  rcases widF_first (fun j => (natL zs n j).1) (kidL zs n i) (-1, -1) (kid_sorted zs n i) with ⟨_, h2⟩ | ⟨j, hj, h1, _, h3⟩
  · exfalso
    have hm := kid_get h0
    have h4 := h2 _ hm
    have h5 := (nat_bd hv (kid_mem.1 hm).1).1
    dsimp only at h4
    omega
  · exact ⟨j, hj, (kid_mem.1 hj).1, by rw [e, h1], h3⟩
/-- A block with boxes is as wide as the widest of them and twice its pad. -/
theorem nat_block {n i : Nat} {zs : List Int} (hv : vtB n zs = true) (hi : i < n) (h0 : knd zs i ≠ 0) (h2 : knd zs i ≠ 2) : (natL zs n i).1 = foldMx ((kidL zs n i).map fun x => (natL zs n x).1) + 2 * zs.getD (i * 9 + 4) 0 := by
  rw [nat_step (link_vt hv) hi]
  unfold contL contP
  rw [if_neg h0, if_neg h2]
  show foldMx ((((kidL zs n i).map (natL zs n)).map turnP).map Prod.snd) + _ = _
  rw [turn_snd, List.map_map]
  rfl
theorem sum_mem {f : Nat → Int} : ∀ (l : List Nat), (∀ x ∈ l, 0 ≤ f x) → ∀ x ∈ l, f x ≤ (l.map f).sum
  | [], _, _, h => absurd h List.not_mem_nil
  | y :: l, h, x, hx => by
    have h0 := h y List.mem_cons_self
    have h1 := sum_ge0 l fun z hz => h z (List.mem_cons_of_mem _ hz)
    simp only [List.map_cons, List.sum_cons]
    rcases List.mem_cons.1 hx with rfl | hx
    · omega
    · have h2 := sum_mem l (fun z hz => h z (List.mem_cons_of_mem _ hz)) x hx
      omega
/-- What one of several sizes side by side takes. -/
theorem sbs_ge {g : Int} (hg : 0 ≤ g) (l : List Nat) (f : Nat → Int × Int) (hf : ∀ x ∈ l, 0 ≤ (f x).1) (j : Nat) (hj : j ∈ l) : (f j).1 ≤ (sbs g (l.map f)).1 ∧ (f j).2 ≤ (sbs g (l.map f)).2 := by
  unfold sbs
  refine ⟨?_, ?_⟩
  · have h1 := sum_mem (f := fun x => (f x).1) l hf j hj
    have h2 : 0 ≤ g * mx 0 (((l.map f).length : Int) - 1) := Int.mul_nonneg hg (by unfold mx; omega)
    have e : ((l.map f).map Prod.fst).sum = (l.map fun x => (f x).1).sum := by rw [List.map_map]; rfl
    show (f j).1 ≤ g * mx 0 (((l.map f).length : Int) - 1) + ((l.map f).map Prod.fst).sum
    rw [e]
    omega
  · exact (foldMx_ge _).2 _ (List.mem_map.2 ⟨f j, List.mem_map.2 ⟨j, hj, rfl⟩, rfl⟩)
/-- A box needs room for each of its boxes and twice its pad. -/
theorem nat_kid {n i j : Nat} {zs : List Int} (hv : vtB n zs = true) (hi : i < n) (hj : j ∈ kidL zs n i) : (natL zs n j).1 + 2 * zs.getD (i * 9 + 4) 0 ≤ (natL zs n i).1 ∧ (natL zs n j).2 + 2 * zs.getD (i * 9 + 4) 0 ≤ (natL zs n i).2 := by
  have kn := kid_kind hv hj
  obtain ⟨_, _, _, _, hg, _⟩ := ((vtB_iff.1 hv).2 i hi).1
  have hf1 : ∀ x ∈ kidL zs n i, 0 ≤ (natL zs n x).1 := fun x hx => (nat_bd hv (kid_mem.1 hx).1).1
  have hf2 : ∀ x ∈ kidL zs n i, 0 ≤ (natL zs n x).2 := fun x hx => (nat_bd hv (kid_mem.1 hx).1).2.2.1
  rw [nat_step (link_vt hv) hi]
  unfold contL contP
  rw [if_neg kn]
  by_cases hk : knd zs i = 2
  · rw [if_pos hk]
    have h := sbs_ge hg.1 (kidL zs n i) (natL zs n) hf1 j hj
    dsimp only
    omega
  · rw [if_neg hk, List.map_map]
    have h := sbs_ge hg.1 (kidL zs n i) (turnP ∘ natL zs n) hf2 j hj
    have e1 : ((turnP ∘ natL zs n) j).1 = (natL zs n j).2 := rfl
    have e2 : ((turnP ∘ natL zs n) j).2 = (natL zs n j).1 := rfl
    rw [e1, e2] at h
    unfold turnP
    dsimp only
    unfold turnP at h
    omega
theorem sum_snoc_i : ∀ (l : List Int) (x : Int), (l ++ [x]).sum = l.sum + x
  | [], x => (by simp)
  | y :: l, x => by
    have h := sum_snoc_i l x
    simp only [List.cons_append, List.sum_cons]
    omega
theorem sum_take {f : Nat → Int} {l : List Nat} {t : Nat} (ht : t < l.length) : ((l.take (t + 1)).map f).sum = ((l.take t).map f).sum + f (l.getD t 0) := by
  rw [List.take_succ_eq_append_getElem ht, List.map_append, show l.getD t 0 = l[t] by simp [ht]]
  exact sum_snoc_i _ _
/-- A row is as wide as its boxes and gaps and twice its pad; any other box with boxes is so high. -/
theorem nat_row {n i : Nat} {zs : List Int} (hv : vtB n zs = true) (hi : i < n) (hk : knd zs i = 2) : (natL zs n i).1 = 2 * zs.getD (i * 9 + 4) 0 + zs.getD (i * 9 + 5) 0 * mx 0 (((kidL zs n i).length : Int) - 1) + ((kidL zs n i).map fun x => (natL zs n x).1).sum := by
  rw [nat_step (link_vt hv) hi]
  unfold contL contP
  rw [if_neg (by rw [hk]; omega), if_pos hk]
  show zs.getD (i * 9 + 5) 0 * mx 0 ((((kidL zs n i).map (natL zs n)).length : Int) - 1) + (((kidL zs n i).map (natL zs n)).map Prod.fst).sum + 2 * zs.getD (i * 9 + 4) 0 = _
  rw [List.length_map, List.map_map, show (Prod.fst ∘ natL zs n) = fun x => (natL zs n x).1 from rfl]
  omega
theorem nat_col {n i : Nat} {zs : List Int} (hv : vtB n zs = true) (hi : i < n) (h0 : knd zs i ≠ 0) (hk : knd zs i ≠ 2) : (natL zs n i).2 = 2 * zs.getD (i * 9 + 4) 0 + zs.getD (i * 9 + 5) 0 * mx 0 (((kidL zs n i).length : Int) - 1) + ((kidL zs n i).map fun x => (natL zs n x).2).sum := by
  rw [nat_step (link_vt hv) hi]
  unfold contL contP
  rw [if_neg h0, if_neg hk]
  show zs.getD (i * 9 + 5) 0 * mx 0 (((((kidL zs n i).map (natL zs n)).map turnP).length : Int) - 1) + ((((kidL zs n i).map (natL zs n)).map turnP).map Prod.fst).sum + 2 * zs.getD (i * 9 + 4) 0 = _
  rw [turn_fst, List.length_map, List.length_map, List.map_map, show (Prod.snd ∘ natL zs n) = fun x => (natL zs n x).2 from rfl]
  omega
theorem nat_leaf {n i : Nat} {zs : List Int} (hv : vtB n zs = true) (hi : i < n) (h0 : knd zs i = 0) : natL zs n i = (zs.getD (i * 9 + 2) 0 + 2 * zs.getD (i * 9 + 4) 0, zs.getD (i * 9 + 3) 0 + 2 * zs.getD (i * 9 + 4) 0) := by
  rw [nat_step (link_vt hv) hi]
  unfold contL contP
  rw [if_pos h0]
theorem nat_none {n i : Nat} {zs : List Int} (hv : vtB n zs = true) (hi : i < n) (h0 : knd zs i ≠ 0) (hk : (kidL zs n i).length = 0) : (natL zs n i).1 = 2 * zs.getD (i * 9 + 4) 0 ∧ (natL zs n i).2 = 2 * zs.getD (i * 9 + 4) 0 := by
  rw [nat_step (link_vt hv) hi]
  unfold contL contP
  rw [if_neg h0, List.eq_nil_of_length_eq_zero hk]
  have e0 : mx 0 ((([] : List (Int × Int)).length : Int) - 1) = 0 := by unfold mx; simp only [List.length_nil]; omega
  have e : sbs (zs.getD (i * 9 + 5) 0) [] = (0, 0) := by unfold sbs; rw [e0, Int.mul_zero]; rfl
  by_cases h2 : knd zs i = 2
  · rw [if_pos h2, List.map_nil, e]; dsimp only; omega
  · rw [if_neg h2, List.map_nil, List.map_nil, e]; unfold turnP; dsimp only; omega
theorem nat_ge {n i : Nat} {zs : List Int} (hv : vtB n zs = true) (hi : i < n) (h0 : knd zs i ≠ 0) : 2 * zs.getD (i * 9 + 4) 0 ≤ (natL zs n i).1 ∧ 2 * zs.getD (i * 9 + 4) 0 ≤ (natL zs n i).2 := by
  rcases Nat.eq_zero_or_pos (kidL zs n i).length with h | h
  · have h1 := nat_none hv hi h0 h
    omega
  · have hm := kid_get h
    have h1 := nat_kid hv hi hm
    have h2 := nat_bd hv (kid_mem.1 hm).1
    omega
end Go.Proofs.Ytobnjagmakhgpaa
