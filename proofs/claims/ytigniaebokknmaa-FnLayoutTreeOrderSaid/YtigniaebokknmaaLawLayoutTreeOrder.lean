/- The law FnLayoutTreeOrder, walked: boxes directly in a box follow each other with its gap. Condition: the code can be read. -/
import Derived.Test.YtigniaebokknmaaDrawLt
import Derived.Test.YtigniaebokknmaaRectQ
import Derived.Test.YtigniaebokknmaaLayA
import Derived.Test.YtigniaebokknmaaZS
import Derived.Test.YtigniaebokknmaaZF
import Derived.Deep.Cut
import Derived.Deep.QuietTactic
import Derived.BigQuiet
namespace Go.Proofs.Ytigniaebokknmaa
open Go.RowKit

theorem allRectD {w : World} {g : Nat} {y0 y1 y2 y3 : Int} (h : Row w g [y0, y1, y2, y3]) : w.cell? ⟨g, 0, none⟩ = some (.int .i64 y0) ∧ w.cell? ⟨g, 1, none⟩ = some (.int .i64 y1) ∧ w.cell? ⟨g, 2, none⟩ = some (.int .i64 y2) ∧ w.cell? ⟨g, 3, none⟩ = some (.int .i64 y3) :=
  ⟨by simpa using h.c 0 (by simp), by simpa using h.c 1 (by simp), by simpa using h.c 2 (by simp), by simpa using h.c 3 (by simp)⟩
set_option maxRecDepth 100000 in
set_option maxHeartbeats 8000000 in
theorem lawLayoutTreeOrder (A : Option Addr) (n c : Nat) (hn : n ≤ maxLen) (hnc : n ≤ c) (w : World) (hb : Bytes w A n) :
    Calls Try.prog 5 #[.slice A n c] w fun e w' => e = .returned (.bool true) ∧ New w w' := by
  have HB := Lib.hid hb; have HM := Lib.hid hn
  clear hb
  unfold maxLen at hn
  by_cases hbig : 1048576 < n
  · go_enter Try.func5, Try.ntmps5
    go_wp2
    go_ret
    exact ⟨rfl, by (repeat (first | exact New.refl _ | assumption | refine New.alloc ?_ _ | refine New.drew ?_ | refine New.drewN ?_ _ | refine New.setCell ?_ (by first | omega | (simp; omega) | (simp; done)) _ | refine New.trans ?_ (by assumption)))⟩
  have hm : (n : Int) ≤ 1048576 := by omega
  have hm0 : (0 : Int) ≤ (n : Int) := by omega
  go_enter Try.func5, Try.ntmps5
  go_wp2_with fail
  refine (DrawLayoutTree_any A n c HM.out hnc _ HB.out).mono ?_
  rintro e w1 ⟨B1, m1, d1, zs, x, y, rfl, I1, l1, kd, xb, yb, N1a⟩
  have s1 := N1a.le
  have N1 := Lib.hid ((New.refl w).trans N1a); clear N1a
  replace I1 := Lib.hid I1
  obtain ⟨nq, LQ⟩ : ∃ nq, Hid ((flat4 (layA m1 zs x y)).length = nq * 4) := ⟨(layA m1 zs x y).length, Lib.hid (flat4_len _)⟩
  have nqa : nq = (layA m1 zs x y).length := by have h1 := LQ.out; rw [flat4_len] at h1; omega
  have nq16 : nq ≤ 16 := by rw [nqa]; exact layA_len
  have nqi : (nq : Int) ≤ 16 := by omega
  have nqj : (0 : Int) ≤ (nq : Int) := by omega
  obtain ⟨xb0, xb1⟩ := xb
  obtain ⟨yb0, yb1⟩ := yb
  cases hv : layOk m1 zs x y
  · have h0 : nq = 0 := by rw [nqa, layA_no hv]; rfl
    subst h0
    clear hv nqa
    go_wp2_with fail
    refine (LayoutTree_ans B1 m1 d1 zs x y (by omega) _ I1.out).mono ?_
    rintro e w2 ⟨A2, n2, c2, rfl, l2, r2, N2a⟩
    have s2 := N2a.le
    have I1 := Lib.hid (I1.out.new N2a)
    have N2 := Lib.hid (N1.out.trans N2a); clear N2a
    obtain rfl : 0 = n2 := by have := LQ.out; omega
    have R2 := Lib.hid r2; clear l2 r2
    go_wp2_with fail
    refine (SLayoutTree_ans B1 m1 d1 zs x y (by omega) _ I1.out).mono ?_
    rintro e w3 ⟨A3, n3, c3, rfl, l3, r3, N3a⟩
    have s3 := N3a.le
    have I1 := Lib.hid (I1.out.new N3a)
    have R2 := Lib.hid (R2.out.new N3a)
    have N3 := Lib.hid (N2.out.trans N3a); clear N3a
    obtain rfl : 0 = n3 := by have := LQ.out; omega
    have R3 := Lib.hid r3; clear l3 r3
    go_wp2_with fail
    refine (equalRects_same _ _ 0 _ _ _ (by omega) _ (Sts.of_res (m := 3) R2.out LQ.out) (Sts.of_res (m := 3) R3.out LQ.out)).mono ?_
    rintro e w4 ⟨rfl, N4a⟩
    have s4 := N4a.le
    have I1 := Lib.hid (I1.out.new N4a)
    have R2 := Lib.hid (R2.out.new N4a)
    have R3 := Lib.hid (R3.out.new N4a)
    have N4 := Lib.hid (N3.out.trans N4a); clear N4a
    go_wp2_with fail
    refine (SLayoutTree_ans B1 m1 d1 zs x y (by omega) _ I1.out).mono ?_
    rintro e w5 ⟨A5, n5, c5, rfl, l5, r5, N5a⟩
    have s5 := N5a.le
    have I1 := Lib.hid (I1.out.new N5a)
    have R2 := Lib.hid (R2.out.new N5a)
    have R3 := Lib.hid (R3.out.new N5a)
    have N5 := Lib.hid (N4.out.trans N5a); clear N5a
    obtain rfl : 0 = n5 := by have := LQ.out; omega
    have R5 := Lib.hid r5; clear l5 r5
    go_wp2_with fail
    refine (equalRects_same _ _ 0 _ _ _ (by omega) _ (Sts.of_res (m := 3) R2.out LQ.out) (Sts.of_res (m := 3) R5.out LQ.out)).mono ?_
    rintro e w6 ⟨rfl, N6a⟩
    have s6 := N6a.le
    have I1 := Lib.hid (I1.out.new N6a)
    have R2 := Lib.hid (R2.out.new N6a)
    have R3 := Lib.hid (R3.out.new N6a)
    have R5 := Lib.hid (R5.out.new N6a)
    have N6 := Lib.hid (N5.out.trans N6a); clear N6a
    go_wp2
    go_ret
    exact ⟨rfl, N6.out⟩
  · have hq : nq = m1 := by rw [nqa, layA_yes hv]; simp
    subst hq
    obtain ⟨hvt, hx0, hy0⟩ := layOk_iff.1 hv
    have v1 := (vtB_iff.1 hvt).1
    have nz0 : ((nq : Int) == 0) = false := by simp; omega
    have LA := Lib.hid (fun i hi => lay_at hv (i := i) hi)
    have V4 := Lib.hid (fun k => flat4_at (layA nq zs x y) k)
    have BD := Lib.hid (fun i (hi : i < nq) => vR_iff.1 (lay_vR hvt hx0 hy0 hi))
    have NX := Lib.hid (fun p t (ht : t + 1 < (kidL zs nq p).length) => lay_next (p := p) (t := t) hvt hx0 hy0 ht)
    have KX := Lib.hid (fun a (ha : a < nq) => kidsA_at hvt ha)
    have K8 := Lib.hid (fun a => kids_le (a := a) hvt)
    have GB := Lib.hid (fun p (hp : p < nq) => gap_bd hvt hp)
    clear hv nqa hvt hx0 hy0
    go_wp2_with fail
    refine (LayoutTree_ans B1 nq d1 zs x y (by omega) _ I1.out).mono ?_
    rintro e w2 ⟨A2, n2, c2, rfl, l2, r2, N2a⟩
    have s2 := N2a.le
    have I1 := Lib.hid (I1.out.new N2a)
    have N2 := Lib.hid (N1.out.trans N2a); clear N2a
    obtain rfl : nq = n2 := by have := LQ.out; omega
    have R2 := Lib.hid r2; clear l2 r2
    go_wp2_with fail
    refine (SLayoutTree_ans B1 nq d1 zs x y (by omega) _ I1.out).mono ?_
    rintro e w3 ⟨A3, n3, c3, rfl, l3, r3, N3a⟩
    have s3 := N3a.le
    have I1 := Lib.hid (I1.out.new N3a)
    have R2 := Lib.hid (R2.out.new N3a)
    have N3 := Lib.hid (N2.out.trans N3a); clear N3a
    obtain rfl : nq = n3 := by have := LQ.out; omega
    have R3 := Lib.hid r3; clear l3 r3
    go_wp2_with fail
    refine (equalRects_same _ _ nq _ _ _ (by omega) _ (Sts.of_res (m := 3) R2.out LQ.out) (Sts.of_res (m := 3) R3.out LQ.out)).mono ?_
    rintro e w4 ⟨rfl, N4a⟩
    have s4 := N4a.le
    have I1 := Lib.hid (I1.out.new N4a)
    have R2 := Lib.hid (R2.out.new N4a)
    have R3 := Lib.hid (R3.out.new N4a)
    have N4 := Lib.hid (N3.out.trans N4a); clear N4a
    obtain ⟨b, off, rfl, hb, hc⟩ := (Sts.of_res (m := 3) R2.out LQ.out).at_ (by omega)
    have GC := Lib.hid (fun i (hi : i < nq) W (hW : New w4 W) => (show W.cell? ⟨b, off + i * 4, none⟩ = some (.int .i64 (layR zs nq x y i).1) ∧ W.cell? ⟨b, off + i * 4 + 1, none⟩ = some (.int .i64 (layR zs nq x y i).2.1) ∧ W.cell? ⟨b, off + i * 4 + 2, none⟩ = some (.int .i64 (layR zs nq x y i).2.2.1) ∧ W.cell? ⟨b, off + i * 4 + 3, none⟩ = some (.int .i64 (layR zs nq x y i).2.2.2) by
      obtain ⟨v0, v1, v2, v3⟩ := V4.out i
      rw [LA.out i hi] at v0 v1 v2 v3
      exact ⟨(hW.cells b _ hb).trans ((hc (i * 4) (by omega)).trans (by rw [v0])), (hW.cells b _ hb).trans ((hc (i * 4 + 1) (by omega)).trans (by rw [v1])), (hW.cells b _ hb).trans ((hc (i * 4 + 2) (by omega)).trans (by rw [v2])), (hW.cells b _ hb).trans ((hc (i * 4 + 3) (by omega)).trans (by rw [v3]))⟩))
    clear hc
    obtain ⟨b', off', rfl, hb', hc'⟩ := I1.out.at_ (by omega)
    have GT := Lib.hid (fun p (hp : p < nq) V (hV : New w4 V) => (show V.cell? ⟨b', off' + p * 9 + 1, none⟩ = some (.int .i64 (zs.getD (p * 9 + 1) 0)) ∧ V.cell? ⟨b', off' + p * 9 + 5, none⟩ = some (.int .i64 (zs.getD (p * 9 + 5) 0)) from ⟨(hV.cells b' _ hb').trans (hc' (p * 9 + 1) (by omega)), (hV.cells b' _ hb').trans (hc' (p * 9 + 5) (by omega))⟩))
    have NN := Lib.hid N4.out
    clear hc'
    go_wp2
    go_loopw [7] (fun i wr => ∃ p : Nat, p ≤ nq ∧ i = .int .i64 p ∧ Hid (New w4 wr)) (fun i _ => nq - (intOf i).toNat)
    case atStart => exact ⟨0, Nat.zero_le _, rfl, Lib.hid (New.refl _)⟩
    case round =>
      obtain ⟨wo, rfl⟩ : ∃ x, x = wr := ⟨wr, rfl⟩
      obtain ⟨p, hp, rfl, HW⟩ := hrel
      have p0 : (0 : Int) ≤ (p : Int) := by omega
      by_cases hlt : p < nq
      · have pi : (p : Int) < (nq : Int) := by omega
        have I2 := Lib.hid (I1.out.new HW.out)
        have KE := Lib.hid (KX.out p hlt)
        have k8 := K8.out p
        have gb := GB.out p hlt
        have nxp := Lib.hid (fun t => NX.out p t)
        have gt := Lib.hid (GT.out p hlt)
        obtain ⟨nz, hnz⟩ : ∃ nz, (kidL zs nq p).length = nz := ⟨_, rfl⟩
        rw [hnz] at k8 nxp
        have LZ : Hid ((kidsA nq zs (p : Int)).length = nz) := Lib.hid (by rw [KE.out, List.length_map]; exact hnz)
        have KM := Lib.hid (fun t (ht : t < nz) => (kid_mem.1 (kid_get (show t < (kidL zs nq p).length by rw [hnz]; exact ht))).1)
        have nzi : (0 : Int) ≤ (nz : Int) := by omega
        clear hnz
        go_wp2_with fail
        refine (KidsOf_ans _ nq d1 zs (p : Int) (by omega) _ I2.out).mono ?_
        rintro e wk ⟨Ak, nk, ck, rfl, lk, rk, Nk⟩
        obtain rfl : nz = nk := by have := LZ.out; omega
        have RK := Lib.hid rk
        have NK := Lib.hid (HW.out.trans Nk)
        clear lk rk Nk
        go_wp2
        go_loopw [9] (fun i wz => ∃ t : Nat, 1 ≤ t ∧ (t ≤ nz ∨ t = 1) ∧ i = .int .i64 t ∧ Hid (New wk wz)) (fun i _ => nz - (intOf i).toNat)
        case atStart => exact ⟨1, Nat.le_refl _, .inr rfl, rfl, Lib.hid (New.refl _)⟩
        case round =>
          obtain ⟨u, hu1, hu, rfl, HZ⟩ := hrel
          obtain ⟨t, rfl⟩ : ∃ t, u = t + 1 := ⟨u - 1, by omega⟩
          have t0 : (0 : Int) ≤ (t : Int) := by omega
          have t0' : (0 : Int) ≤ ((t + 1 : Nat) : Int) := by omega
          by_cases htl : t + 1 < nz
          · have t1 : (t : Int) < (nz : Int) := by omega
            have t1' : ((t + 1 : Nat) : Int) < (nz : Int) := by omega
            have iw : IntKind.i64.wrap (((t + 1 : Nat) : Int) - 1) = (t : Int) := by rw [IntWalk.i64_in _ (by omega)]; omega
            have iw2 : IntKind.i64.wrap ((t : Int) + 1 - 1) = (t : Int) := by rw [IntWalk.i64_in _ (by omega)]; omega
            obtain ⟨b2, off2, rfl, hb2, hc2⟩ := (RK.out.ints LZ.out).at_ (by omega)
            have g1 := (HZ.out.cells b2 _ hb2).trans (hc2 t (by omega))
            have g2 := (HZ.out.cells b2 _ hb2).trans (hc2 (t + 1) htl)
            rw [KE.out, kid_at] at g1 g2
            have nx := nxp.out t htl
            have m1_ := KM.out t (by omega)
            have m2_ := KM.out (t + 1) htl
            have zb2 : b2 < wr.heap.size := Nat.lt_of_lt_of_le hb2 HZ.out.le
            generalize (kidL zs nq p).getD t 0 = f at *
            generalize (kidL zs nq p).getD (t + 1) 0 = h at *
            have f0 : (0 : Int) ≤ (f : Int) := by omega
            have f1 : (f : Int) < (nq : Int) := by omega
            have h0 : (0 : Int) ≤ (h : Int) := by omega
            have h1 : (h : Int) < (nq : Int) := by omega
            have HV := Lib.hid (NK.out.trans HZ.out)
            have GA := Lib.hid (GC.out f m1_); have GH := Lib.hid (GC.out h m2_)
            have ba := BD.out f m1_; have bh := BD.out h m2_
            obtain ⟨⟨a0, a1, a2, a3⟩, hqa⟩ : ∃ q, layR zs nq x y f = q := ⟨_, rfl⟩
            obtain ⟨⟨c0, c1, c2, c3⟩, hqc⟩ : ∃ q, layR zs nq x y h = q := ⟨_, rfl⟩
            rw [hqa, hqc] at nx
            rw [hqa] at GA ba
            rw [hqc] at GH bh
            dsimp only at nx ba bh
            clear hqa hqc hc2
            obtain ⟨x0_, x1_, x2_, x3_⟩ := GA.out wr HV.out
            obtain ⟨y0_, y1_, y2_, y3_⟩ := GH.out wr HV.out
            dsimp only at x0_ x1_ x2_ x3_ y0_ y1_ y2_ y3_
            have zb : b < wr.heap.size := Nat.lt_of_lt_of_le hb HV.out.le
            go_upto_region 16 with fail
            have RA := Lib.hid ((Row.oneRect wr a0 a1 a2 a3 32).new ((New.refl _).alloc (.cells #[.int .i64 c0, .int .i64 c1, .int .i64 c2, .int .i64 c3] 32)))
            have RB := Lib.hid (by have h := Row.oneRect (wr.alloc (.cells #[.int .i64 a0, .int .i64 a1, .int .i64 a2, .int .i64 a3] 32)) c0 c1 c2 c3 32; rw [show (wr.alloc (.cells #[.int .i64 a0, .int .i64 a1, .int .i64 a2, .int .i64 a3] 32)).heap.size = wr.heap.size + 1 by simp] at h; exact h)
            have HB := Lib.hid ((HZ.out.alloc (.cells #[.int .i64 a0, .int .i64 a1, .int .i64 a2, .int .i64 a3] 32)).alloc (.cells #[.int .i64 c0, .int .i64 c1, .int .i64 c2, .int .i64 c3] 32))
            generalize hw6 : (wr.alloc (.cells #[.int .i64 a0, .int .i64 a1, .int .i64 a2, .int .i64 a3] 32)).alloc (.cells #[.int .i64 c0, .int .i64 c1, .int .i64 c2, .int .i64 c3] 32) = W6 at RA RB HB ⊢
            clear hw6 x0_ x1_ x2_ x3_ y0_ y1_ y2_ y3_ g1 g2
            obtain ⟨x0_, x1_, x2_, x3_⟩ := allRectD RA.out
            obtain ⟨y0_, y1_, y2_, y3_⟩ := allRectD RB.out
            obtain ⟨gk, gg⟩ := gt.out W6 (NK.out.trans HB.out)
            have za := RA.out.lt; have zc := RB.out.lt
            obtain ⟨gp, hgp⟩ : ∃ gp, zs.getD (p * 9 + 5) 0 = gp := ⟨_, rfl⟩
            rw [hgp] at gg gb nx
            clear hgp
            by_cases hk : zs.getD (p * 9 + 1) 0 = 2
            · have nx := nx.1 hk
              rw [hk] at gk
              clear hk
              have s1 : IntKind.i64.wrap (a0 + a2) = a0 + a2 := IntWalk.i64_in _ (by omega)
              have s2 : IntKind.i64.wrap (a0 + a2 + gp) = a0 + a2 + gp := IntWalk.i64_in _ (by omega)
              have nl : ¬ (c0 < a0 + a2 + gp) := by omega
              have dl : decide (c0 < a0 + a2 + gp) = false := decide_eq_false nl
              clear nx
              go_wp2
              go_quiet (fail)
              have NQ := Lib.hid (HB.out.drewN nq)
              generalize W6.drewN nq = W7 at NQ ⊢
              go_wp2
              go_roundw
              case rel => exact ⟨t + 1 + 1, by omega, by omega, by go_num, NQ⟩
              case measure => simp [intOf]; omega
            · have nx := nx.2 hk
              have kb : (zs.getD (p * 9 + 1) 0 == 2) = false := by simpa using hk
              have kb2 : (zs.getD (p * 9 + 1) 0 != 2) = true := by simpa using hk
              generalize zs.getD (p * 9 + 1) 0 = kd1 at *
              have s1 : IntKind.i64.wrap (a1 + a3) = a1 + a3 := IntWalk.i64_in _ (by omega)
              have s2 : IntKind.i64.wrap (a1 + a3 + gp) = a1 + a3 + gp := IntWalk.i64_in _ (by omega)
              have nl : ¬ (c1 < a1 + a3 + gp) := by omega
              have dl : decide (c1 < a1 + a3 + gp) = false := decide_eq_false nl
              clear nx
              go_wp2
              go_quiet (fail)
              have NQ := Lib.hid (HB.out.drewN nq)
              generalize W6.drewN nq = W7 at NQ ⊢
              go_wp2
              go_roundw
              case rel => exact ⟨t + 1 + 1, by omega, by omega, by go_num, NQ⟩
              case measure => simp [intOf]; omega
          · have t1' : ¬ ((t + 1 : Nat) : Int) < (nz : Int) := by omega
            go_wp2
            go_roundw
            case rel => exact ⟨p + 1, by omega, by go_num, Lib.hid (NK.out.trans HZ.out)⟩
            case measure => simp [intOf]; omega
      · go_wp2
        go_ret
        exact ⟨rfl, NN.out.trans HW.out⟩
end Go.Proofs.Ytigniaebokknmaa
