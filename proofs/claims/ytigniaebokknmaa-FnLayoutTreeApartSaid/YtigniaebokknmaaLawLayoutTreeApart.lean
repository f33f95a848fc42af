/- The law FnLayoutTreeApart, walked: rectangles of boxes directly in one box have no common points. Condition: the code can be read. -/
import Derived.Test.YtigniaebokknmaaDrawLt
import Derived.Test.YtigniaebokknmaaRectQ
import Derived.Test.YtigniaebokknmaaLayA
import Derived.Test.YtigniaebokknmaaRectG
import Derived.Deep.RegionHeld3
import Derived.Deep.QuietTactic
import Derived.BigQuiet
namespace Go.Proofs.Ytigniaebokknmaa
open Go.RowKit

set_option maxHeartbeats 4000000 in
theorem lawLayoutTreeApart (A : Option Addr) (n c : Nat) (hn : n ≤ maxLen) (hnc : n ≤ c) (w : World) (hb : Bytes w A n) :
    Calls Try.prog 3 #[.slice A n c] w fun e w' => e = .returned (.bool true) ∧ New w w' := by
  have HB := Lib.hid hb; have HM := Lib.hid hn
  clear hb
  unfold maxLen at hn
  by_cases hbig : 1048576 < n
  · go_enter Try.func3, Try.ntmps3
    go_wp2
    go_ret
    exact ⟨rfl, by (repeat (first | exact New.refl _ | assumption | refine New.alloc ?_ _ | refine New.drew ?_ | refine New.drewN ?_ _ | refine New.setCell ?_ (by first | omega | (simp; omega) | (simp; done)) _ | refine New.trans ?_ (by assumption)))⟩
  have hm : (n : Int) ≤ 1048576 := by omega
  have hm0 : (0 : Int) ≤ (n : Int) := by omega
  go_enter Try.func3, Try.ntmps3
  go_wp2_with fail
  refine (DrawLayoutTree_any A n c HM.out hnc _ HB.out).mono ?_
  rintro e w1 ⟨B1, m1, d1, zs, x, y, rfl, I1, l1, kd, xb, yb, N1a⟩
  have s1 := N1a.le
  have N1 := Lib.hid ((New.refl w).trans N1a); clear N1a
  replace I1 := Lib.hid I1
  obtain ⟨nq, LQ⟩ : ∃ nq, Hid ((flat4 (layA m1 zs x y)).length = nq * 4) := ⟨(layA m1 zs x y).length, Lib.hid (flat4_len _)⟩
  have nqa : nq = (layA m1 zs x y).length := by have h1 := LQ.out; rw [flat4_len] at h1; omega
  have nq16 : nq ≤ 16 := by rw [nqa]; exact layA_len
  have nqi : (nq : Int) ≤ 16 := by omega
  have nqj : (0 : Int) ≤ (nq : Int) := by omega
  obtain ⟨xb0, xb1⟩ := xb
  obtain ⟨yb0, yb1⟩ := yb
  cases hv : layOk m1 zs x y
  · have h0 : nq = 0 := by rw [nqa, layA_no hv]; rfl
    subst h0
    clear hv nqa
    go_wp2_with fail
    refine (LayoutTree_ans B1 m1 d1 zs x y (by omega) _ I1.out).mono ?_
    rintro e w2 ⟨A2, n2, c2, rfl, l2, r2, N2a⟩
    have s2 := N2a.le
    have I1 := Lib.hid (I1.out.new N2a)
    have N2 := Lib.hid (N1.out.trans N2a); clear N2a
    obtain rfl : 0 = n2 := by have := LQ.out; omega
    have R2 := Lib.hid r2; clear l2 r2
    go_wp2_with fail
    refine (SLayoutTree_ans B1 m1 d1 zs x y (by omega) _ I1.out).mono ?_
    rintro e w3 ⟨A3, n3, c3, rfl, l3, r3, N3a⟩
    have s3 := N3a.le
    have I1 := Lib.hid (I1.out.new N3a)
    have R2 := Lib.hid (R2.out.new N3a)
    have N3 := Lib.hid (N2.out.trans N3a); clear N3a
    obtain rfl : 0 = n3 := by have := LQ.out; omega
    have R3 := Lib.hid r3; clear l3 r3
    go_wp2_with fail
    refine (equalRects_same _ _ 0 _ _ _ (by omega) _ (Sts.of_res (m := 3) R2.out LQ.out) (Sts.of_res (m := 3) R3.out LQ.out)).mono ?_
    rintro e w4 ⟨rfl, N4a⟩
    have s4 := N4a.le
    have I1 := Lib.hid (I1.out.new N4a)
    have R2 := Lib.hid (R2.out.new N4a)
    have R3 := Lib.hid (R3.out.new N4a)
    have N4 := Lib.hid (N3.out.trans N4a); clear N4a
    go_wp2_with fail
    refine (SLayoutTree_ans B1 m1 d1 zs x y (by omega) _ I1.out).mono ?_
    rintro e w5 ⟨A5, n5, c5, rfl, l5, r5, N5a⟩
    have s5 := N5a.le
    have I1 := Lib.hid (I1.out.new N5a)
    have R2 := Lib.hid (R2.out.new N5a)
    have R3 := Lib.hid (R3.out.new N5a)
    have N5 := Lib.hid (N4.out.trans N5a); clear N5a
    obtain rfl : 0 = n5 := by have := LQ.out; omega
    have R5 := Lib.hid r5; clear l5 r5
    go_wp2_with fail
    refine (equalRects_same _ _ 0 _ _ _ (by omega) _ (Sts.of_res (m := 3) R2.out LQ.out) (Sts.of_res (m := 3) R5.out LQ.out)).mono ?_
    rintro e w6 ⟨rfl, N6a⟩
    have s6 := N6a.le
    have I1 := Lib.hid (I1.out.new N6a)
    have R2 := Lib.hid (R2.out.new N6a)
    have R3 := Lib.hid (R3.out.new N6a)
    have R5 := Lib.hid (R5.out.new N6a)
    have N6 := Lib.hid (N5.out.trans N6a); clear N6a
    go_wp2
    go_ret
    exact ⟨rfl, N6.out⟩
  · have hq : nq = m1 := by rw [nqa, layA_yes hv]; simp
    subst hq
    obtain ⟨hvt, hx0, hy0⟩ := layOk_iff.1 hv
    have v1 := (vtB_iff.1 hvt).1
    have nz0 : ((nq : Int) == 0) = false := by simp; omega
    have LA := Lib.hid (fun i hi => lay_at hv (i := i) hi)
    have V4 := Lib.hid (fun k => flat4_at (layA nq zs x y) k)
    have VB := Lib.hid (fun i (hi : i < nq) => lay_vR hvt hx0 hy0 hi)
    have AP := Lib.hid (fun i t p (hi : i < nq) (ht : t < i) (h1 : par zs t = ((p : Nat) : Int)) (h2 : par zs i = (p : Int)) => lay_apart hvt hx0 hy0 h1 h2 ht hi)
    have UP := Lib.hid (fun i (h0 : 0 < i) (hi : i < nq) => (link_vt hvt).up i h0 hi)
    clear hv nqa hvt hx0 hy0
    go_wp2_with fail
    refine (LayoutTree_ans B1 nq d1 zs x y (by omega) _ I1.out).mono ?_
    rintro e w2 ⟨A2, n2, c2, rfl, l2, r2, N2a⟩
    have s2 := N2a.le
    have I1 := Lib.hid (I1.out.new N2a)
    have N2 := Lib.hid (N1.out.trans N2a); clear N2a
    obtain rfl : nq = n2 := by have := LQ.out; omega
    have R2 := Lib.hid r2; clear l2 r2
    go_wp2_with fail
    refine (SLayoutTree_ans B1 nq d1 zs x y (by omega) _ I1.out).mono ?_
    rintro e w3 ⟨A3, n3, c3, rfl, l3, r3, N3a⟩
    have s3 := N3a.le
    have I1 := Lib.hid (I1.out.new N3a)
    have R2 := Lib.hid (R2.out.new N3a)
    have N3 := Lib.hid (N2.out.trans N3a); clear N3a
    obtain rfl : nq = n3 := by have := LQ.out; omega
    have R3 := Lib.hid r3; clear l3 r3
    go_wp2_with fail
    refine (equalRects_same _ _ nq _ _ _ (by omega) _ (Sts.of_res (m := 3) R2.out LQ.out) (Sts.of_res (m := 3) R3.out LQ.out)).mono ?_
    rintro e w4 ⟨rfl, N4a⟩
    have s4 := N4a.le
    have I1 := Lib.hid (I1.out.new N4a)
    have R2 := Lib.hid (R2.out.new N4a)
    have R3 := Lib.hid (R3.out.new N4a)
    have N4 := Lib.hid (N3.out.trans N4a); clear N4a
    obtain ⟨b, off, rfl, hb, hc⟩ := (Sts.of_res (m := 3) R2.out LQ.out).at_ (by omega)
    have GC := Lib.hid (fun i (hi : i < nq) W (hW : New w4 W) => (show W.cell? ⟨b, off + i * 4, none⟩ = some (.int .i64 (layR zs nq x y i).1) ∧ W.cell? ⟨b, off + i * 4 + 1, none⟩ = some (.int .i64 (layR zs nq x y i).2.1) ∧ W.cell? ⟨b, off + i * 4 + 2, none⟩ = some (.int .i64 (layR zs nq x y i).2.2.1) ∧ W.cell? ⟨b, off + i * 4 + 3, none⟩ = some (.int .i64 (layR zs nq x y i).2.2.2) by
      obtain ⟨v0, v1, v2, v3⟩ := V4.out i
      rw [LA.out i hi] at v0 v1 v2 v3
      exact ⟨(hW.cells b _ hb).trans ((hc (i * 4) (by omega)).trans (by rw [v0])), (hW.cells b _ hb).trans ((hc (i * 4 + 1) (by omega)).trans (by rw [v1])), (hW.cells b _ hb).trans ((hc (i * 4 + 2) (by omega)).trans (by rw [v2])), (hW.cells b _ hb).trans ((hc (i * 4 + 3) (by omega)).trans (by rw [v3]))⟩))
    clear hc
    obtain ⟨b', off', rfl, hb', hc'⟩ := I1.out.at_ (by omega)
    have GT := Lib.hid (fun i (hi : i < nq) V (hV : New w4 V) => (show V.cell? ⟨b', off' + i * 9, none⟩ = some (.int .i64 (par zs i)) from (hV.cells b' _ hb').trans (hc' (i * 9) (by omega))))
    have NN := Lib.hid N4.out
    clear hc'
    go_wp2
    go_loopw [7] (fun i wr => ∃ j : Nat, 1 ≤ j ∧ j ≤ nq ∧ i = .int .i64 j ∧ Hid (New w4 wr)) (fun i _ => nq - (intOf i).toNat)
    case atStart => exact ⟨1, Nat.le_refl _, by omega, rfl, Lib.hid (New.refl _)⟩
    case round =>
      obtain ⟨wo, rfl⟩ : ∃ x, x = wr := ⟨wr, rfl⟩
      obtain ⟨j, hj1, hj, rfl, HW⟩ := hrel
      have j0 : (0 : Int) ≤ (j : Int) := by omega
      by_cases hlt : j < nq
      · have ji : (j : Int) < (nq : Int) := by omega
        obtain ⟨p, ep, hpj, _⟩ := UP.out j (by omega) hlt
        have HP := Lib.hid ep
        clear ep
        go_wp2
        go_loopw [8] (fun i wr => ∃ t : Nat, 1 ≤ t ∧ t ≤ j ∧ i = .int .i64 t ∧ Hid (New w4 wr)) (fun i _ => j - (intOf i).toNat)
        case atStart => exact ⟨1, Nat.le_refl _, by omega, rfl, HW⟩
        case round =>
          obtain ⟨W5, rfl⟩ : ∃ x, x = wr := ⟨wr, rfl⟩
          obtain ⟨t, ht1, ht, rfl, HV⟩ := hrel
          have t0 : (0 : Int) ≤ (t : Int) := by omega
          by_cases htl : t < j
          · have t1 : (t : Int) < (j : Int) := by omega
            have tn : t < nq := by omega
            have t2 : (t : Int) < (nq : Int) := by omega
            obtain ⟨r, er, hrt, _⟩ := UP.out t (by omega) tn
            have g0 := GT.out j hlt W5 HV.out
            rw [HP.out] at g0
            have g1 := GT.out t tn W5 HV.out
            rw [er] at g1
            by_cases hpr : p = r
            · subst hpr
              have ap := AP.out j t p hlt htl er HP.out
              have HG := Lib.hid (GC.out j hlt)
              have HT := Lib.hid (GC.out t tn)
              clear er
              obtain ⟨⟨a0, a1, a2, a3⟩, hqa⟩ : ∃ q, layR zs nq x y j = q := ⟨_, rfl⟩
              obtain ⟨⟨c0, c1, c2, c3⟩, hqc⟩ : ∃ q, layR zs nq x y t = q := ⟨_, rfl⟩
              rw [hqa, hqc] at ap
              rw [hqa] at HG
              rw [hqc] at HT
              dsimp only at ap
              clear hqa hqc
              have hmf : mOk a0 a1 a2 a3 c0 c1 c2 c3 = false := by
                cases hm : mOk a0 a1 a2 a3 c0 c1 c2 c3
                · rfl
                · obtain ⟨_, _, h1, h2⟩ := mOk_iff.1 hm
                  unfold mW mn mx at h1 h2
                  omega
              have MX : Hid (∀ V, Calls Try.prog 12 #[.agg #[.int .i64 a0, .int .i64 a1, .int .i64 a2, .int .i64 a3], .agg #[.int .i64 c0, .int .i64 c1, .int .i64 c2, .int .i64 c3]] V fun e V' => (∃ h0 h1 h2 h3 : Int, e = .returned (.tuple #[.agg #[.int .i64 h0, .int .i64 h1, .int .i64 h2, .int .i64 h3], .bool false])) ∧ New V V') := Lib.hid (fun V => by
                have h := MeetRects_any a0 a1 a2 a3 c0 c1 c2 c3 V
                rw [hmf] at h
                exact h.mono fun e V' ⟨he, hN⟩ => ⟨⟨_, _, _, _, he⟩, hN⟩)
              have pe : ((p : Int) == (p : Int)) = true := by simp
              clear ap hmf
              go_wp2
              go_quiet (fail)
              have NQ := Lib.hid (HV.out.drewN nq)
              generalize W5.drewN nq = W6 at NQ ⊢
              clear g0 g1
              have KX := Lib.hid (fun V (hV : New W6 V) => (⟨(HG.out V (NQ.out.trans hV)).1, (HG.out V (NQ.out.trans hV)).2.1, (HG.out V (NQ.out.trans hV)).2.2.1, (HG.out V (NQ.out.trans hV)).2.2.2, HT.out V (NQ.out.trans hV)⟩ : V.cell? ⟨b, off + j * 4, none⟩ = some (.int .i64 a0) ∧ V.cell? ⟨b, off + j * 4 + 1, none⟩ = some (.int .i64 a1) ∧ V.cell? ⟨b, off + j * 4 + 2, none⟩ = some (.int .i64 a2) ∧ V.cell? ⟨b, off + j * 4 + 3, none⟩ = some (.int .i64 a3) ∧ V.cell? ⟨b, off + t * 4, none⟩ = some (.int .i64 c0) ∧ V.cell? ⟨b, off + t * 4 + 1, none⟩ = some (.int .i64 c1) ∧ V.cell? ⟨b, off + t * 4 + 2, none⟩ = some (.int .i64 c2) ∧ V.cell? ⟨b, off + t * 4 + 3, none⟩ = some (.int .i64 c3)))
              have NC := Lib.hid (New.refl W6).drew
              have KK := KX.out _ NC.out
              have NZ := Lib.hid ((New.refl W6).alloc (.cells #[.int .i64 0, .int .i64 0, .int .i64 0, .int .i64 0] 32)).drew
              have KZ := KX.out _ NZ.out
              have RZ := Lib.hid ((Row.oneRect W6 0 0 0 0 32).new (New.refl _).drew)
              go_wp2
              go_region_held3 (fun w' => w'.cell? ⟨b, off + j * 4, none⟩ = some (.int .i64 a0) ∧ w'.cell? ⟨b, off + j * 4 + 1, none⟩ = some (.int .i64 a1) ∧ w'.cell? ⟨b, off + j * 4 + 2, none⟩ = some (.int .i64 a2) ∧ w'.cell? ⟨b, off + j * 4 + 3, none⟩ = some (.int .i64 a3) ∧ w'.cell? ⟨b, off + t * 4, none⟩ = some (.int .i64 c0) ∧ w'.cell? ⟨b, off + t * 4 + 1, none⟩ = some (.int .i64 c1) ∧ w'.cell? ⟨b, off + t * 4 + 2, none⟩ = some (.int .i64 c2) ∧ w'.cell? ⟨b, off + t * 4 + 3, none⟩ = some (.int .i64 c3))
                (first | exact KK | exact KZ | assumption | exact KX.out _ (by (repeat (first | exact New.refl _ | assumption | refine New.alloc ?_ _ | refine New.drew ?_ | refine New.drewN ?_ _ | refine New.setCell ?_ (by first | omega | (simp; omega) | (simp; done)) _ | refine New.trans ?_ (by assumption)))))
                (first
                  | (go_at_call 12; with_reducible refine (MX.out W6.drew).mono ?_; rintro e wk ⟨⟨h0, h1, h2, h3, rfl⟩, Nk⟩; (have KK := KX.out wk (NC.out.trans Nk)); (have NK := Lib.hid (NC.out.trans Nk)); clear Nk)
                  | (go_at_call 12; with_reducible refine (MX.out (W6.alloc (.cells #[.int .i64 0, .int .i64 0, .int .i64 0, .int .i64 0] 32)).drew).mono ?_; rintro e wk ⟨⟨h0, h1, h2, h3, rfl⟩, Nk⟩; (have KK := KX.out wk (NZ.out.trans Nk)); (have NK := Lib.hid (NZ.out.trans Nk)); (have RK := Lib.hid (RZ.out.new Nk)); (have k0_ := RK.out.c 0 (by simp)); (have k1_ := RK.out.c 1 (by simp)); (have k2_ := RK.out.c 2 (by simp)); (have k3_ := RK.out.c 3 (by simp)); (have z0_ := RK.out.f 0 (by simp)); (have z1_ := RK.out.f 1 (by simp)); (have z2_ := RK.out.f 2 (by simp)); (have z3_ := RK.out.f 3 (by simp)); clear Nk))
              · have N7 := Lib.hid (show New W6 (wk.alloc (.cells #[.int .i64 h0, .int .i64 h1, .int .i64 h2, .int .i64 h3] 32)) from NK.out.alloc _)
                clear KK KZ
                generalize wk.alloc (.cells #[.int .i64 h0, .int .i64 h1, .int .i64 h2, .int .i64 h3] 32) = W7 at N7 ⊢
                go_wp2
                go_roundw
                case rel => exact ⟨t + 1, by omega, by omega, by go_num, Lib.hid (NQ.out.trans N7.out)⟩
                case measure => simp [intOf]; omega
              · have N7 := Lib.hid (show New W6 ((((wk.setCell ⟨W6.heap.size, 0, none⟩ (.int .i64 h0)).setCell ⟨W6.heap.size, 1, none⟩ (.int .i64 h1)).setCell ⟨W6.heap.size, 2, none⟩ (.int .i64 h2)).setCell ⟨W6.heap.size, 3, none⟩ (.int .i64 h3)) from (((NK.out.setCell (Nat.le_refl _) _).setCell (Nat.le_refl _) _).setCell (Nat.le_refl _) _).setCell (Nat.le_refl _) _)
                clear KK KZ k0_ k1_ k2_ k3_ z0_ z1_ z2_ z3_ RK
                generalize ((((wk.setCell ⟨W6.heap.size, 0, none⟩ (.int .i64 h0)).setCell ⟨W6.heap.size, 1, none⟩ (.int .i64 h1)).setCell ⟨W6.heap.size, 2, none⟩ (.int .i64 h2)).setCell ⟨W6.heap.size, 3, none⟩ (.int .i64 h3)) = W7 at N7 ⊢
                go_wp2
                go_roundw
                case rel => exact ⟨t + 1, by omega, by omega, by go_num, Lib.hid (NQ.out.trans N7.out)⟩
                case measure => simp [intOf]; omega
            · have pe : ((p : Int) == (r : Int)) = false := by simp; omega
              have pe2 : (p == r) = false := by simpa using hpr
              clear er
              go_wp2
              go_quiet (fail)
              have NQ := Lib.hid (HV.out.drewN nq)
              generalize W5.drewN nq = W6 at NQ ⊢
              go_wp2
              go_roundw
              case rel => exact ⟨t + 1, by omega, by omega, by go_num, NQ⟩
              case measure => simp [intOf]; omega
          · obtain rfl : t = j := by omega
            go_wp2
            go_roundw
            case rel => exact ⟨t + 1, by omega, hlt, by go_num, HV⟩
            case measure => simp [intOf]; omega
      · go_wp2
        go_ret
        exact ⟨rfl, NN.out.trans HW.out⟩
end Go.Proofs.Ytigniaebokknmaa
