/- The law FnLayoutTreeRow, walked: the widths of the boxes of a row are flexible sizes of what they need. Condition: the code can be read. -/
import Derived.Test.YtobnjagmakhgpaaYB
import Derived.Test.YtobnjagmakhgpaaRectQ
import Derived.Test.YtobnjagmakhgpaaYC
import Derived.Test.YtobnjagmakhgpaaLayR
import Derived.Test.YtobnjagmakhgpaaYE
import Derived.Test.YtobnjagmakhgpaaZS
import Derived.Test.YtobnjagmakhgpaaZF
import Derived.Test.YtobnjagmakhgpaaZU
import Derived.Test.YtobnjagmakhgpaaZT
import Derived.Test.YtobnjagmakhgpaaZP
import Derived.Deep.RegionHeld3
import Derived.Deep.Cut
import Derived.Deep.QuietTactic
import Derived.BigQuiet
namespace Go.Proofs.Ytobnjagmakhgpaa
open Go.RowKit

set_option maxHeartbeats 4000000 in
theorem lawLayoutTreeRow (A : Option Addr) (n c : Nat) (hn : n ≤ maxLen) (hnc : n ≤ c) (w : World) (hb : Bytes w A n) :
    Calls Try.prog 3 #[.slice A n c] w fun e w' => e = .returned (.bool true) ∧ New w w' := by
  have HB := Lib.hid hb; have HM := Lib.hid hn
  clear hb
  unfold maxLen at hn
  by_cases hbig : 1048576 < n
  · go_enter Try.func3, Try.ntmps3
    go_wp2
    go_ret
    exact ⟨rfl, by (repeat (first | exact New.refl _ | assumption | refine New.alloc ?_ _ | refine New.drew ?_ | refine New.drewN ?_ _ | refine New.setCell ?_ (by first | omega | (simp; omega) | (simp; done)) _ | refine New.trans ?_ (by assumption)))⟩
  have hm : (n : Int) ≤ 1048576 := by omega
  have hm0 : (0 : Int) ≤ (n : Int) := by omega
  go_enter Try.func3, Try.ntmps3
  go_wp2_with fail
  refine (DrawLayoutTree_any A n c HM.out hnc _ HB.out).mono ?_
  rintro e w1 ⟨B1, m1, d1, zs, x, y, rfl, I1, l1, kd, xb, yb, N1a⟩
  have s1 := N1a.le
  have N1 := Lib.hid ((New.refl w).trans N1a); clear N1a
  replace I1 := Lib.hid I1
  obtain ⟨nq, LQ⟩ : ∃ nq, Hid ((flat4 (layA m1 zs x y)).length = nq * 4) := ⟨(layA m1 zs x y).length, Lib.hid (flat4_len _)⟩
  have nqa : nq = (layA m1 zs x y).length := by have h1 := LQ.out; rw [flat4_len] at h1; omega
  have nq16 : nq ≤ 16 := by rw [nqa]; exact layA_len
  have nqi : (nq : Int) ≤ 16 := by omega
  have nqj : (0 : Int) ≤ (nq : Int) := by omega
  obtain ⟨xb0, xb1⟩ := xb
  obtain ⟨yb0, yb1⟩ := yb
  cases hv : layOk m1 zs x y
  · have h0 : nq = 0 := by rw [nqa, layA_no hv]; rfl
    subst h0
    clear hv nqa
    go_wp2_with fail
    refine (LayoutTree_ans B1 m1 d1 zs x y (by omega) _ I1.out).mono ?_
    rintro e w2 ⟨A2, n2, c2, rfl, l2, r2, N2a⟩
    have s2 := N2a.le
    have I1 := Lib.hid (I1.out.new N2a)
    have N2 := Lib.hid (N1.out.trans N2a); clear N2a
    obtain rfl : 0 = n2 := by have := LQ.out; omega
    have R2 := Lib.hid r2; clear l2 r2
    go_wp2_with fail
    refine (SLayoutTree_ans B1 m1 d1 zs x y (by omega) _ I1.out).mono ?_
    rintro e w3 ⟨A3, n3, c3, rfl, l3, r3, N3a⟩
    have s3 := N3a.le
    have I1 := Lib.hid (I1.out.new N3a)
    have R2 := Lib.hid (R2.out.new N3a)
    have N3 := Lib.hid (N2.out.trans N3a); clear N3a
    obtain rfl : 0 = n3 := by have := LQ.out; omega
    have R3 := Lib.hid r3; clear l3 r3
    go_wp2_with fail
    refine (equalRects_same _ _ 0 _ _ _ (by omega) _ (Sts.of_res (m := 3) R2.out LQ.out) (Sts.of_res (m := 3) R3.out LQ.out)).mono ?_
    rintro e w4 ⟨rfl, N4a⟩
    have s4 := N4a.le
    have I1 := Lib.hid (I1.out.new N4a)
    have R2 := Lib.hid (R2.out.new N4a)
    have R3 := Lib.hid (R3.out.new N4a)
    have N4 := Lib.hid (N3.out.trans N4a); clear N4a
    go_wp2_with fail
    refine (SLayoutTree_ans B1 m1 d1 zs x y (by omega) _ I1.out).mono ?_
    rintro e w5 ⟨A5, n5, c5, rfl, l5, r5, N5a⟩
    have s5 := N5a.le
    have I1 := Lib.hid (I1.out.new N5a)
    have R2 := Lib.hid (R2.out.new N5a)
    have R3 := Lib.hid (R3.out.new N5a)
    have N5 := Lib.hid (N4.out.trans N5a); clear N5a
    obtain rfl : 0 = n5 := by have := LQ.out; omega
    have R5 := Lib.hid r5; clear l5 r5
    go_wp2_with fail
    refine (equalRects_same _ _ 0 _ _ _ (by omega) _ (Sts.of_res (m := 3) R2.out LQ.out) (Sts.of_res (m := 3) R5.out LQ.out)).mono ?_
    rintro e w6 ⟨rfl, N6a⟩
    have s6 := N6a.le
    have I1 := Lib.hid (I1.out.new N6a)
    have R2 := Lib.hid (R2.out.new N6a)
    have R3 := Lib.hid (R3.out.new N6a)
    have R5 := Lib.hid (R5.out.new N6a)
    have N6 := Lib.hid (N5.out.trans N6a); clear N6a
    go_wp2
    go_ret
    exact ⟨rfl, N6.out⟩
  · have hq : nq = m1 := by rw [nqa, layA_yes hv]; simp
    subst hq
    obtain ⟨hvt, hx0, hy0⟩ := layOk_iff.1 hv
    have v1 := (vtB_iff.1 hvt).1
    have nz0 : ((nq : Int) == 0) = false := by simp; omega
    have LA := Lib.hid (fun i hi => lay_at hv (i := i) hi)
    have V4 := Lib.hid (fun k => flat4_at (layA nq zs x y) k)
    have HV := Lib.hid hvt; have HX0 := Lib.hid hx0
    clear hv nqa hvt
    go_wp2_with fail
    refine (LayoutTree_ans B1 nq d1 zs x y (by omega) _ I1.out).mono ?_
    rintro e w2 ⟨A2, n2, c2, rfl, l2, r2, N2a⟩
    have s2 := N2a.le
    have I1 := Lib.hid (I1.out.new N2a)
    have N2 := Lib.hid (N1.out.trans N2a); clear N2a
    obtain rfl : nq = n2 := by have := LQ.out; omega
    have R2 := Lib.hid r2; clear l2 r2
    go_wp2_with fail
    refine (SLayoutTree_ans B1 nq d1 zs x y (by omega) _ I1.out).mono ?_
    rintro e w3 ⟨A3, n3, c3, rfl, l3, r3, N3a⟩
    have s3 := N3a.le
    have I1 := Lib.hid (I1.out.new N3a)
    have R2 := Lib.hid (R2.out.new N3a)
    have N3 := Lib.hid (N2.out.trans N3a); clear N3a
    obtain rfl : nq = n3 := by have := LQ.out; omega
    have R3 := Lib.hid r3; clear l3 r3
    go_wp2_with fail
    refine (equalRects_same _ _ nq _ _ _ (by omega) _ (Sts.of_res (m := 3) R2.out LQ.out) (Sts.of_res (m := 3) R3.out LQ.out)).mono ?_
    rintro e w4 ⟨rfl, N4a⟩
    have s4 := N4a.le
    have I1 := Lib.hid (I1.out.new N4a)
    have R2 := Lib.hid (R2.out.new N4a)
    have R3 := Lib.hid (R3.out.new N4a)
    have N4 := Lib.hid (N3.out.trans N4a); clear N4a
    by_cases h2 : 1 < nq ∧ knd zs 0 = 2
    · obtain ⟨hn1, hk2⟩ := h2
      obtain ⟨kl1, LR⟩ := lay_row (H := y) HV.out HX0.out hk2 hn1
      have LR := Lib.hid LR
      have k8 := kids_le (a := 0) HV.out
      have KA := Lib.hid (kidsA_at HV.out (show 0 < nq by omega))
      have KI := Lib.hid (fun t (ht : t < (kidL zs nq 0).length) => (show (kidL zs nq 0).getD t 0 < nq from (kid_mem.1 (getD_mem_n ht)).1))
      obtain ⟨l, hl⟩ : ∃ l, kidL zs nq 0 = l := ⟨_, rfl⟩
      rw [hl] at kl1 LR k8 KA KI
      obtain ⟨K, hK⟩ : ∃ K, l.length = K := ⟨_, rfl⟩
      rw [hK] at kl1 LR k8 KI
      have HK := Lib.hid hK
      have LK : Hid ((kidsA nq zs ((0 : Nat) : Int)).length = K) := Lib.hid (by rw [KA.out, List.length_map]; exact hK)
      have pb := pad_bd HV.out (show 0 < nq by omega)
      have gb := gap_bd HV.out (show 0 < nq by omega)
      rw [Nat.zero_mul, Nat.zero_add] at pb gb
      obtain ⟨pd, hpd⟩ : ∃ pd, zs.getD 4 0 = pd := ⟨_, rfl⟩
      obtain ⟨gp, hgp⟩ : ∃ gp, zs.getD 5 0 = gp := ⟨_, rfl⟩
      rw [hpd] at pb LR
      rw [hgp] at gb LR
      have HPD := Lib.hid hpd; have HGP := Lib.hid hgp
      have HK2 := Lib.hid (show zs.getD 1 0 = 2 from hk2)
      obtain ⟨pb0, pb1⟩ := pb
      obtain ⟨gb0, gb1⟩ := gb
      obtain ⟨b', off', rfl, hb', hc'⟩ := I1.out.at_ (by omega)
      have GT := Lib.hid (fun i (hi : i < nq) V (hV : New w4 V) => (show V.cell? ⟨b', off' + i * 9 + 6, none⟩ = some (.int .i64 (zs.getD (i * 9 + 6) 0)) ∧ V.cell? ⟨b', off' + i * 9 + 7, none⟩ = some (.int .i64 (zs.getD (i * 9 + 7) 0)) from ⟨(hV.cells b' _ hb').trans (hc' (i * 9 + 6) (by omega)), (hV.cells b' _ hb').trans (hc' (i * 9 + 7) (by omega))⟩))
      have G0 := Lib.hid (fun V (hV : New w4 V) => (show V.cell? ⟨b', off' + 4, none⟩ = some (.int .i64 pd) ∧ V.cell? ⟨b', off' + 5, none⟩ = some (.int .i64 gp) from ⟨(hV.cells b' _ hb').trans ((hc' 4 (by omega)).trans (by rw [HPD.out])), (hV.cells b' _ hb').trans ((hc' 5 (by omega)).trans (by rw [HGP.out]))⟩))
      have gk : w4.cell? ⟨b', off' + 1, none⟩ = some (.int .i64 2) := (hc' 1 (by omega)).trans (by rw [HK2.out])
      obtain ⟨b, off, rfl, hb, hc⟩ := (Sts.of_res (m := 3) R2.out LQ.out).at_ (by omega)
      have GC := Lib.hid (fun i (hi : i < nq) V (hV : New w4 V) => (show V.cell? ⟨b, off + i * 4 + 2, none⟩ = some (.int .i64 (layR zs nq x y i).2.2.1) by
        obtain ⟨v0, v1, v2, v3⟩ := V4.out i
        rw [LA.out i hi] at v0 v1 v2 v3
        exact (hV.cells b _ hb).trans ((hc (i * 4 + 2) (by omega)).trans (by rw [v2]))))
      have NS := Lib.hid (fun i (hi : i < nq) V (hV : New w4 V) => (show Calls Try.prog 14 #[.slice (some ⟨b', off', none⟩) nq d1, .int .i64 (i : Int)] V (fun e w' => e = .returned (.tuple #[.int .i64 (natL zs nq i).1, .int .i64 (natL zs nq i).2, .bool true]) ∧ New V w') by
        have h := NaturalSize_any (some ⟨b', off', none⟩) nq d1 zs (i : Int) (by omega) V (I1.out.new hV)
        rw [natW_at HV.out hi, natH_at HV.out hi, nodeOk_iff.2 ⟨HV.out, i, rfl, hi⟩] at h
        exact h))
      have d2 : decide ((nq : Int) < 2) = false := decide_eq_false (by omega)
      have z0 : 0 < nq := by omega
      have z1 : (0 : Int) < (nq : Int) := by omega
      have kn0 : (0 : Int) ≤ (K : Int) := by omega
      have kn1 : (1 : Int) ≤ (K : Int) := by omega
      have kn8 : (K : Int) ≤ 8 := by omega
      clear hc hc' hl hK hpd hgp hk2
      go_wp2_with fail
      refine (KidsOf_ans (some ⟨b', off', none⟩) nq d1 zs ((0 : Nat) : Int) (by omega) _ I1.out).mono ?_
      rintro e wk ⟨Ak, nk, ck, rfl, lk, rk, Nk⟩
      obtain rfl : K = nk := by rw [← lk]; exact LK.out.symm
      have RK := Lib.hid (rk.ints LK.out)
      have ks := Nk.le
      have NK := Lib.hid Nk
      have NN := Lib.hid N4.out
      clear lk rk Nk gk
      obtain ⟨b2, off2, rfl, hb2, hc2⟩ := RK.out.at_ (by omega)
      have GK := Lib.hid (fun t (ht : t < K) V (hV : New wk V) => (show V.cell? ⟨b2, off2 + t, none⟩ = some (.int .i64 ((l.getD t 0 : Nat) : Int)) by
        refine (hV.cells b2 _ hb2).trans ((hc2 t ht).trans ?_)
        rw [KA.out]
        have e : (l.map Int.ofNat).getD t 0 = ((l.getD t 0 : Nat) : Int) := by simp [show t < l.length by rw [HK.out]; exact ht]
        rw [e]))
      clear hc2
      have OF : Hid (OwnFlex wk.heap.size ((wk.alloc (.cells #[] 37)).alloc (.cells #[] 3)) (.slice (some ⟨wk.heap.size, 0, none⟩) 0 0) 0 []) := Lib.hid ((OwnFlex.empty wk (Nat.le_refl _)).new ((New.refl _).alloc _))
      have OI : Hid (Own wk.heap.size ((wk.alloc (.cells #[] 37)).alloc (.cells #[] 3)) (.slice (some ⟨wk.heap.size + 1, 0, none⟩) 0 0) []) := Lib.hid (by
        have h := Own.empty (lo := wk.heap.size) (wk.alloc (.cells #[] 37)) 0 (by simp) rfl
        rw [show (wk.alloc (.cells #[] 37)).heap.size = wk.heap.size + 1 by simp] at h
        exact h)
      have N0 : Hid (New wk ((wk.alloc (.cells #[] 37)).alloc (.cells #[] 3))) := Lib.hid (((New.refl _).alloc _).alloc _)
      go_wp2
      go_loopw [8, 9, 10] (fun f v i wr => ∃ k : Nat, k ≤ K ∧ i = .int .i64 k ∧ Hid (OwnFlex wk.heap.size wr f k (flxL (fun j => (natL zs nq j).1) zs (l.take k))) ∧ Hid (Own wk.heap.size wr v ((l.take k).map fun j => (layR zs nq x y j).2.2.1)) ∧ Hid (New wk wr)) (fun _ _ i _ => K - (intOf i).toNat)
      case atStart => exact ⟨0, Nat.zero_le _, rfl, OF, OI, N0⟩
      case round =>
        obtain ⟨k, hk, rfl, HF, HI, HN⟩ := hrel
        have k0 : (0 : Int) ≤ (k : Int) := by omega
        obtain ⟨Af, cf, hvf, hcf, Zf⟩ := HF.out.res
        have FL : Hid ((flxL (fun j => (natL zs nq j).1) zs (l.take k)).length = k * 5) := Lib.hid (by rw [flxL_len, List.length_take, HK.out]; omega)
        obtain ⟨As, cs, hvs, hcs, Zs⟩ := HI.out.res
        have SL : Hid (((l.take k).map fun j => (layR zs nq x y j).2.2.1).length = k) := Lib.hid (by rw [List.length_map, List.length_take, HK.out]; omega)
        rw [SL.out] at hvs hcs
        subst hvf hvs
        have IF := Lib.hid (Sts.of_res (m := 4) Zf FL.out)
        have IS := Lib.hid (Zs.ints SL.out)
        clear Zf Zs
        by_cases hlt : k < K
        · have k1 : (k : Int) < (K : Int) := by omega
          have hj := KI.out k hlt
          have FS := Lib.hid (flxL_step (zs := zs) (g := fun j => (natL zs nq j).1) (l := l) (k := k) (by rw [HK.out]; exact hlt))
          have MS := Lib.hid (map_step (f := fun j => (layR zs nq x y j).2.2.1) (l := l) (k := k) (by rw [HK.out]; exact hlt))
          have gkk := Lib.hid (GK.out k hlt)
          have gk1 := gkk.out wr HN.out
          have nsk := Lib.hid (NS.out _ hj)
          have gtt := Lib.hid (GT.out _ hj)
          have gcc := Lib.hid (GC.out _ hj)
          have ns := nat_sm HV.out hj
          generalize l.getD k 0 = j at *
          try dsimp only at FS MS
          have j0 : (0 : Int) ≤ (j : Int) := by omega
          have j1 : (j : Int) < (nq : Int) := by omega
          generalize (natL zs nq j).1 = p at *
          generalize (natL zs nq j).2 = q at *
          generalize zs.getD (j * 9 + 6) 0 = y6 at *
          generalize zs.getD (j * 9 + 7) 0 = y7 at *
          generalize (layR zs nq x y j).2.2.1 = wj at *
          go_wp2_with fail
          refine (nsk.out _ (NK.out.trans HN.out)).mono ?_
          rintro e wp ⟨rfl, Np⟩
          have HF := Lib.hid (HF.out.new Np); have HI := Lib.hid (HI.out.new Np)
          have HN := Lib.hid (HN.out.trans Np); clear Np
          have HD := Lib.hid HN.out.drew
          have OF7 := Lib.hid (HF.out.new (New.refl wp).drew)
          have OI7 := Lib.hid (HI.out.new (New.refl wp).drew)
          have KF := Lib.hid (fun V (hV : New wk V) => (show V.cell? ⟨b2, off2 + k, none⟩ = some (.int .i64 (j : Int)) ∧ V.cell? ⟨b', off' + j * 9 + 6, none⟩ = some (.int .i64 y6) ∧ V.cell? ⟨b', off' + j * 9 + 7, none⟩ = some (.int .i64 y7) from ⟨gkk.out V hV, gtt.out V (NK.out.trans hV)⟩))
          have K1 := KF.out wp.drew HD.out
          have K2 := KF.out (wp.drew.alloc (.cells #[.int .i64 p, .int .i64 0, .int .i64 10000, .int .i64 y6, .int .i64 y7] 37)) (HD.out.alloc _)
          have lw := HD.out.le
          clear gk1
          go_wp2
          go_region_held3 (fun w' => w'.cell? ⟨b2, off2 + k, none⟩ = some (.int .i64 (j : Int)) ∧ w'.cell? ⟨b', off' + j * 9 + 6, none⟩ = some (.int .i64 y6) ∧ w'.cell? ⟨b', off' + j * 9 + 7, none⟩ = some (.int .i64 y7))
            (first | exact K1 | exact K2 | exact K6 | assumption)
            (first
              | (refine step_appFlexM rfl (.tmp 73) (.tmp 92) rfl wk.heap.size _ k _ rfl (OF7.out.alloc (.cells #[.int .i64 p, .int .i64 0, .int .i64 10000, .int .i64 y6, .int .i64 y7] 37)) _ 1 1 [p, 0, 10000, y6, y7] rfl ((Row.oneFlex wp.drew p 0 10000 y6 y7 37).sts5b rfl) (by omega) (HD.out.alloc _).le ?_; intro v6 w6 O6 G6; (have N6 := Lib.hid (new_ownFlex (HD.out.alloc _) G6 (OF7.out.alloc _) (Nat.le_refl _))); (have I6 := Lib.hid ((OI7.out.new ((New.refl _).alloc (.cells #[.int .i64 p, .int .i64 0, .int .i64 10000, .int .i64 y6, .int .i64 y7] 37))).keptFlex (OF7.out.alloc (.cells #[.int .i64 p, .int .i64 0, .int .i64 10000, .int .i64 y6, .int .i64 y7] 37)) G6)); (have K6 := KF.out w6 N6.out); (replace O6 := Lib.hid O6); clear G6))
          have g1 := gkk.out w6 N6.out
          have g2 := gcc.out w6 (NK.out.trans N6.out)
          have lw6 := N6.out.le
          clear K1 K2 K6 lw
          go_wp2_with (at_builtin; refine wp_app rfl _ _ rfl wk.heap.size _ _ rfl (I6.out.alloc _) (some ⟨w6.heap.size, 0, none⟩) 1 1 [wj] rfl (Ints.one w6 wj _) (by rw [SL.out]; omega) (by simp; omega) ?_; intro v8 w8 O8 G8; (have N8 := Lib.hid (new_own (N6.out.alloc _) G8 (I6.out.alloc _) (Nat.le_refl _))); (have F8 := Lib.hid ((O6.out.alloc _).keptOwn (I6.out.alloc _) G8)); (replace O8 := Lib.hid O8); clear G8)
          go_roundw
          case rel => exact ⟨k + 1, by omega, by go_num, Lib.hid (by rw [FS.out]; exact F8.out), Lib.hid (by rw [MS.out]; exact O8.out), N8⟩
          case measure => simp [intOf]; omega
        · obtain rfl : K = k := by omega
          have TL := Lib.hid (show l.take K = l from List.take_of_length_le (by rw [HK.out]; exact Nat.le_refl _))
          rw [TL.out] at IF IS
          obtain ⟨g4, g5⟩ := G0.out wr (NK.out.trans HN.out)
          have gm : 0 ≤ gp * ((K : Int) - 1) ∧ gp * ((K : Int) - 1) ≤ 350 := by
            refine ⟨Int.mul_nonneg gb0 (by omega), ?_⟩
            have := Int.mul_le_mul gb1 (show (K : Int) - 1 ≤ 7 by omega) (by omega) (by omega : (0 : Int) ≤ 50)
            omega
          obtain ⟨gm0, gm1⟩ := gm
          have LR2 := LR.out
          obtain ⟨IN, hIN⟩ : ∃ IN, mx 0 (x - 2 * pd) = IN := ⟨_, rfl⟩
          rw [hIN] at LR2
          have in0 : 0 ≤ IN := by rw [← hIN]; unfold mx; omega
          have in1 : IN ≤ 10001 := by rw [← hIN]; unfold mx; omega
          generalize hP : gp * ((K : Int) - 1) = P at *
          obtain ⟨SP, hSP⟩ : ∃ SP, mx 0 (IN - P) = SP := ⟨_, rfl⟩
          rw [hSP] at LR2
          have CF := Lib.hid (fun V (hV : New wr V) => FlexSizes_ans (flxL (fun j => (natL zs nq j).1) zs l) SP Af K cf V (IF.out.new hV) (by omega))
          have CI := Lib.hid (fun V (hV : New wr V) => IS.out.new hV)
          have LS : Hid ((flexA K (flxL (fun j => (natL zs nq j).1) zs l) SP).length = K) := Lib.hid (by rw [← LR2, List.length_map, HK.out])
          have LR2 := Lib.hid LR2
          have hmx := run_mx Try.prog
          have n0 := HN.out
          clear HF HI FL SL
          go_wp2_with fail
          refine (CF.out _ (New.refl _)).mono ?_
          rintro e w9 ⟨A9, n9, c9, rfl, l9, r9, N9⟩
          obtain rfl : K = n9 := by rw [← l9]; exact LS.out.symm
          have R9 := Lib.hid (r9.ints LS.out)
          have I9 := Lib.hid (CI.out _ N9)
          have N9 := Lib.hid (HN.out.trans N9)
          clear l9 r9
          go_wp2_with fail
          refine (equalInts_any _ _ K K _ _ _ _ (by omega) (by omega) _ R9.out I9.out).mono ?_
          rw [decide_eq_true LR2.out.symm]
          rintro e wz ⟨rfl, Nz⟩
          have NZ := Lib.hid (NN.out.trans (NK.out.trans (N9.out.trans Nz)))
          go_wp2
          go_ret
          exact ⟨rfl, NZ.out⟩
    · have h3 : nq < 2 ∨ (2 ≤ nq ∧ (zs.getD 1 0 == 2) = false) := by
        by_cases h : 1 < nq
        · right
          refine ⟨by omega, ?_⟩
          have h4 : ¬ knd zs 0 = 2 := fun e => h2 ⟨h, e⟩
          have h5 : knd zs 0 = zs.getD 1 0 := rfl
          rw [h5] at h4
          simpa using h4
        · left; omega
      clear h2
      rcases h3 with h3 | ⟨h3, h4⟩
      · have d2 : decide ((nq : Int) < 2) = true := decide_eq_true (by omega)
        go_wp2_with fail
        refine (SLayoutTree_ans B1 nq d1 zs x y (by omega) _ I1.out).mono ?_
        rintro e w5 ⟨A5, n5, c5, rfl, l5, r5, N5a⟩
        have s5 := N5a.le
        have I1 := Lib.hid (I1.out.new N5a)
        have R2 := Lib.hid (R2.out.new N5a)
        have R3 := Lib.hid (R3.out.new N5a)
        have N5 := Lib.hid (N4.out.trans N5a); clear N5a
        obtain rfl : nq = n5 := by have := LQ.out; omega
        have R5 := Lib.hid r5; clear l5 r5
        go_wp2_with fail
        refine (equalRects_same _ _ nq _ _ _ (by omega) _ (Sts.of_res (m := 3) R2.out LQ.out) (Sts.of_res (m := 3) R5.out LQ.out)).mono ?_
        rintro e w6 ⟨rfl, N6a⟩
        have s6 := N6a.le
        have I1 := Lib.hid (I1.out.new N6a)
        have R2 := Lib.hid (R2.out.new N6a)
        have R3 := Lib.hid (R3.out.new N6a)
        have R5 := Lib.hid (R5.out.new N6a)
        have N6 := Lib.hid (N5.out.trans N6a); clear N6a
        go_wp2
        go_ret
        exact ⟨rfl, N6.out⟩
      · have d2 : decide ((nq : Int) < 2) = false := decide_eq_false (by omega)
        have d3 : (zs.getD 1 0 != 2) = true := by simpa using h4
        obtain ⟨b', off', rfl, hb', hc'⟩ := I1.out.at_ (by omega)
        have gk : w4.cell? ⟨b', off' + 1, none⟩ = some (.int .i64 (zs.getD 1 0)) := hc' 1 (by omega)
        have z0 : 0 < nq := by omega
        have z1 : (0 : Int) < (nq : Int) := by omega
        clear hc'
        generalize zs.getD 1 0 = kd0 at gk h4 d3
        go_wp2_with fail
        refine (SLayoutTree_ans (some ⟨b', off', none⟩) nq d1 zs x y (by omega) _ I1.out).mono ?_
        rintro e w5 ⟨A5, n5, c5, rfl, l5, r5, N5a⟩
        have s5 := N5a.le
        have I1 := Lib.hid (I1.out.new N5a)
        have R2 := Lib.hid (R2.out.new N5a)
        have R3 := Lib.hid (R3.out.new N5a)
        have N5 := Lib.hid (N4.out.trans N5a); clear N5a
        obtain rfl : nq = n5 := by have := LQ.out; omega
        have R5 := Lib.hid r5; clear l5 r5
        go_wp2_with fail
        refine (equalRects_same _ _ nq _ _ _ (by omega) _ (Sts.of_res (m := 3) R2.out LQ.out) (Sts.of_res (m := 3) R5.out LQ.out)).mono ?_
        rintro e w6 ⟨rfl, N6a⟩
        have s6 := N6a.le
        have I1 := Lib.hid (I1.out.new N6a)
        have R2 := Lib.hid (R2.out.new N6a)
        have R3 := Lib.hid (R3.out.new N6a)
        have R5 := Lib.hid (R5.out.new N6a)
        have N6 := Lib.hid (N5.out.trans N6a); clear N6a
        go_wp2
        go_ret
        exact ⟨rfl, N6.out⟩
end Go.Proofs.Ytobnjagmakhgpaa
