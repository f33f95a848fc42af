/- The law FnLayoutTreeBlock, walked: in a block each box has the height that it needs, and they follow each other with the gap. Condition: the code can be read. -/
import Derived.Test.YtbpocogohfmoaaaLayB
import Derived.Test.YtbpocogohfmoaaaDrawLt
import Derived.Test.YtbpocogohfmoaaaRectQ
import Derived.Test.YtbpocogohfmoaaaZF
namespace Go.Proofs.Ytbpocogohfmoaaa
open Go.RowKit

set_option maxRecDepth 100000 in
set_option maxHeartbeats 4000000 in
theorem lawLayoutTreeBlock (A : Option Addr) (n c : Nat) (hn : n ≤ maxLen) (hnc : n ≤ c) (w : World) (hb : Bytes w A n) :
    Calls Try.prog 9 #[.slice A n c] w fun e w' => e = .returned (.bool true) ∧ New w w' := by
  have HB := Lib.hid hb; have HM := Lib.hid hn
  clear hb
  unfold maxLen at hn
  by_cases hbig : 1048576 < n
  · go_enter Try.func9, Try.ntmps9
    go_wp2
    go_ret
    exact ⟨rfl, by (repeat (first | exact New.refl _ | assumption | refine New.alloc ?_ _ | refine New.drew ?_ | refine New.drewN ?_ _ | refine New.setCell ?_ (by first | omega | (simp; omega) | (simp; done)) _ | refine New.trans ?_ (by assumption)))⟩
  have hm : (n : Int) ≤ 1048576 := by omega
  have hm0 : (0 : Int) ≤ (n : Int) := by omega
  go_enter Try.func9, Try.ntmps9
  go_wp2_with fail
  refine (DrawLayoutTree_any A n c HM.out hnc _ HB.out).mono ?_
  rintro e w1 ⟨B1, m1, d1, zs, x, y, rfl, I1, l1, kd, xb, yb, N1a⟩
  have s1 := N1a.le
  have N1 := Lib.hid ((New.refl w).trans N1a); clear N1a
  replace I1 := Lib.hid I1
  obtain ⟨nq, LQ⟩ : ∃ nq, Hid ((flat4 (layA m1 zs x y)).length = nq * 4) := ⟨(layA m1 zs x y).length, Lib.hid (flat4_len _)⟩
  have nqa : nq = (layA m1 zs x y).length := by have h1 := LQ.out; rw [flat4_len] at h1; omega
  have nq16 : nq ≤ 16 := by rw [nqa]; exact layA_len
  have nqi : (nq : Int) ≤ 16 := by omega
  have nqj : (0 : Int) ≤ (nq : Int) := by omega
  obtain ⟨xb0, xb1⟩ := xb
  obtain ⟨yb0, yb1⟩ := yb
  cases hv : layOk m1 zs x y
  · have h0 : nq = 0 := by rw [nqa, layA_no hv]; rfl
    subst h0
    clear hv nqa
    go_wp2_with fail
    refine (LayoutTree_ans B1 m1 d1 zs x y (by omega) _ I1.out).mono ?_
    rintro e w2 ⟨A2, n2, c2, rfl, l2, r2, N2a⟩
    have s2 := N2a.le
    have I1 := Lib.hid (I1.out.new N2a)
    have N2 := Lib.hid (N1.out.trans N2a); clear N2a
    obtain rfl : 0 = n2 := by have := LQ.out; omega
    have R2 := Lib.hid r2; clear l2 r2
    go_wp2_with fail
    refine (SLayoutTree_ans B1 m1 d1 zs x y (by omega) _ I1.out).mono ?_
    rintro e w3 ⟨A3, n3, c3, rfl, l3, r3, N3a⟩
    have s3 := N3a.le
    have I1 := Lib.hid (I1.out.new N3a)
    have R2 := Lib.hid (R2.out.new N3a)
    have N3 := Lib.hid (N2.out.trans N3a); clear N3a
    obtain rfl : 0 = n3 := by have := LQ.out; omega
    have R3 := Lib.hid r3; clear l3 r3
    go_wp2_with fail
    refine (equalRects_same _ _ 0 _ _ _ (by omega) _ (Sts.of_res (m := 3) R2.out LQ.out) (Sts.of_res (m := 3) R3.out LQ.out)).mono ?_
    rintro e w4 ⟨rfl, N4a⟩
    have s4 := N4a.le
    have I1 := Lib.hid (I1.out.new N4a)
    have R2 := Lib.hid (R2.out.new N4a)
    have R3 := Lib.hid (R3.out.new N4a)
    have N4 := Lib.hid (N3.out.trans N4a); clear N4a
    go_wp2_with fail
    refine (SLayoutTree_ans B1 m1 d1 zs x y (by omega) _ I1.out).mono ?_
    rintro e w5 ⟨A5, n5, c5, rfl, l5, r5, N5a⟩
    have s5 := N5a.le
    have I1 := Lib.hid (I1.out.new N5a)
    have R2 := Lib.hid (R2.out.new N5a)
    have R3 := Lib.hid (R3.out.new N5a)
    have N5 := Lib.hid (N4.out.trans N5a); clear N5a
    obtain rfl : 0 = n5 := by have := LQ.out; omega
    have R5 := Lib.hid r5; clear l5 r5
    go_wp2_with fail
    refine (equalRects_same _ _ 0 _ _ _ (by omega) _ (Sts.of_res (m := 3) R2.out LQ.out) (Sts.of_res (m := 3) R5.out LQ.out)).mono ?_
    rintro e w6 ⟨rfl, N6a⟩
    have s6 := N6a.le
    have I1 := Lib.hid (I1.out.new N6a)
    have R2 := Lib.hid (R2.out.new N6a)
    have R3 := Lib.hid (R3.out.new N6a)
    have R5 := Lib.hid (R5.out.new N6a)
    have N6 := Lib.hid (N5.out.trans N6a); clear N6a
    go_wp2
    go_ret
    exact ⟨rfl, N6.out⟩
  · have hq : nq = m1 := by rw [nqa, layA_yes hv]; simp
    subst hq
    obtain ⟨hvt, hx0, hy0⟩ := layOk_iff.1 hv
    have v1 := (vtB_iff.1 hvt).1
    have nz0 : ((nq : Int) == 0) = false := by simp; omega
    have BX := Lib.hid (fun p t hk ht => lay_blk (p := p) (t := t) hvt hx0 hy0 hk ht)
    have KX := Lib.hid (fun a (ha : a < nq) => kidsA_at hvt ha)
    have K8 := Lib.hid (fun a => kids_le (a := a) hvt)
    have GB := Lib.hid (fun p (hp : p < nq) => ((vtB_iff.1 hvt).2 p hp).1.2.2.2.2.1)
    have LA := Lib.hid (fun i hi => lay_at hv (i := i) hi)
    have V4 := Lib.hid (fun k => flat4_at (layA nq zs x y) k)
    clear hv nqa hvt hx0 hy0
    go_wp2_with fail
    refine (LayoutTree_ans B1 nq d1 zs x y (by omega) _ I1.out).mono ?_
    rintro e w2 ⟨A2, n2, c2, rfl, l2, r2, N2a⟩
    have s2 := N2a.le
    have I1 := Lib.hid (I1.out.new N2a)
    have N2 := Lib.hid (N1.out.trans N2a); clear N2a
    obtain rfl : nq = n2 := by have := LQ.out; omega
    have R2 := Lib.hid r2; clear l2 r2
    go_wp2_with fail
    refine (SLayoutTree_ans B1 nq d1 zs x y (by omega) _ I1.out).mono ?_
    rintro e w3 ⟨A3, n3, c3, rfl, l3, r3, N3a⟩
    have s3 := N3a.le
    have I1 := Lib.hid (I1.out.new N3a)
    have R2 := Lib.hid (R2.out.new N3a)
    have N3 := Lib.hid (N2.out.trans N3a); clear N3a
    obtain rfl : nq = n3 := by have := LQ.out; omega
    have R3 := Lib.hid r3; clear l3 r3
    go_wp2_with fail
    refine (equalRects_same _ _ nq _ _ _ (by omega) _ (Sts.of_res (m := 3) R2.out LQ.out) (Sts.of_res (m := 3) R3.out LQ.out)).mono ?_
    rintro e w4 ⟨rfl, N4a⟩
    have s4 := N4a.le
    have I1 := Lib.hid (I1.out.new N4a)
    have R2 := Lib.hid (R2.out.new N4a)
    have R3 := Lib.hid (R3.out.new N4a)
    have N4 := Lib.hid (N3.out.trans N4a); clear N4a
    obtain ⟨b, off, rfl, hb, hc⟩ := (Sts.of_res (m := 3) R2.out LQ.out).at_ (by omega)
    obtain ⟨b', off', rfl, hb', hc'⟩ := I1.out.at_ (by omega)
    have GC := Lib.hid (fun i (hi : i < nq) W (hW : New w4 W) => (show W.cell? ⟨b, off + i * 4 + 1, none⟩ = some (.int .i64 (layR zs nq x y i).2.1) ∧ W.cell? ⟨b, off + i * 4 + 3, none⟩ = some (.int .i64 (layR zs nq x y i).2.2.2) by
      obtain ⟨v0, v1, v2, v3⟩ := V4.out i
      rw [LA.out i hi] at v1 v3
      exact ⟨(hW.cells b _ hb).trans ((hc (i * 4 + 1) (by omega)).trans (by rw [v1])), (hW.cells b _ hb).trans ((hc (i * 4 + 3) (by omega)).trans (by rw [v3]))⟩))
    have GT := Lib.hid (fun i (hi : i < nq * 9) W (hW : New w4 W) => (hW.cells b' (off' + i) hb').trans (hc' i hi))
    have NN := Lib.hid N4.out
    clear hc hc'
    go_wp2
    go_loopw [7] (fun i wr => ∃ p : Nat, p ≤ nq ∧ i = .int .i64 p ∧ Hid (New w4 wr)) (fun i _ => nq - (intOf i).toNat)
    case atStart => exact ⟨0, Nat.zero_le _, rfl, Lib.hid (by (repeat (first | exact New.refl _ | assumption | refine New.alloc ?_ _ | refine New.drew ?_ | refine New.drewN ?_ _ | refine New.setCell ?_ (by first | omega | (simp; omega) | (simp; done)) _ | refine New.trans ?_ (by assumption))))⟩
    case round =>
      obtain ⟨p, hp, rfl, HW⟩ := hrel
      have p0 : (0 : Int) ≤ (p : Int) := by omega
      by_cases hpl : p < nq
      · have pi : (p : Int) < (nq : Int) := by omega
        have gk := GT.out (p * 9 + 1) (by omega) wr HW.out
        rw [← Nat.add_assoc] at gk
        have I2 := Lib.hid (I1.out.new HW.out)
        obtain ⟨gap, hgap⟩ : ∃ gap, zs.getD (p * 9 + 5) 0 = gap := ⟨_, rfl⟩
        have gb := GB.out p hpl
        have KE := Lib.hid (KX.out p hpl)
        have k8 := K8.out p
        by_cases hk1 : zs.getD (p * 9 + 1) 0 = 1
        · have BT := Lib.hid (fun t ht => BX.out p t hk1 ht)
          rw [hk1] at gk
          rw [hgap] at gb BT
          obtain ⟨nz, hnz⟩ : ∃ nz, (kidL zs nq p).length = nz := ⟨_, rfl⟩
          rw [hnz] at k8 BT
          have LZ : Hid ((kidsA nq zs (p : Int)).length = nz) := Lib.hid (by rw [KE.out, List.length_map]; exact hnz)
          have nzi : (0 : Int) ≤ (nz : Int) := by omega
          have HG := Lib.hid hgap
          clear hgap hnz hk1
          go_wp2_with fail
          refine (KidsOf_ans _ nq d1 zs (p : Int) (by omega) _ I2.out).mono ?_
          rintro e wk ⟨Ak, nk, ck, rfl, lk, rk, Nk⟩
          obtain rfl : nz = nk := by have := LZ.out; omega
          have RK := Lib.hid rk
          have NK := Lib.hid (HW.out.trans Nk)
          clear lk rk Nk gk
          go_wp2
          go_loopw [9] (fun i wz => ∃ t : Nat, t ≤ nz ∧ i = .int .i64 t ∧ Hid (New wk wz)) (fun i _ => nz - (intOf i).toNat)
          case atStart => exact ⟨0, Nat.zero_le _, rfl, Lib.hid (by (repeat (first | exact New.refl _ | assumption | refine New.alloc ?_ _ | refine New.drew ?_ | refine New.drewN ?_ _ | refine New.setCell ?_ (by first | omega | (simp; omega) | (simp; done)) _ | refine New.trans ?_ (by assumption))))⟩
          case round =>
            obtain ⟨t, ht, rfl, HZ⟩ := hrel
            have t0 : (0 : Int) ≤ (t : Int) := by omega
            by_cases hlt : t < nz
            · have ti : (t : Int) < (nz : Int) := by omega
              obtain ⟨b2, off2, rfl, hb2, hc2⟩ := (RK.out.ints LZ.out).at_ (by omega)
              have HN := Lib.hid (NK.out.trans HZ.out)
              have I3 := Lib.hid (I1.out.new HN.out)
              have g1 := (HZ.out.cells b2 _ hb2).trans (hc2 t hlt)
              rw [KE.out, kid_at] at g1
              obtain ⟨hu, hnh, hno, hy, hh, hs⟩ := BT.out t hlt
              have NH := Lib.hid hnh; have NO := Lib.hid hno
              obtain ⟨X, hX⟩ : ∃ X, natW nq zs (((kidL zs nq p).getD t 0 : Nat) : Int) = X := ⟨_, rfl⟩
              have HX := Lib.hid hX
              clear hX hnh hno
              rcases Nat.eq_zero_or_pos t with h0 | h0
              · subst h0
                rw [Nat.add_zero] at g1
                generalize (kidL zs nq p).getD 0 0 = u at *
                have u0 : (0 : Int) ≤ (u : Int) := by omega
                have ui : (u : Int) < (nq : Int) := by omega
                have GU := Lib.hid (GC.out u hu)
                generalize (layR zs nq x y u).2.1 = Y at *
                generalize (layR zs nq x y u).2.2.2 = Z at *
                clear hc2 hs
                go_wp2_with fail
                refine (NaturalSize_any _ nq d1 zs (u : Int) (by omega) _ I3.out).mono ?_
                rw [HX.out, NH.out, NO.out]
                rintro e wc ⟨rfl, Nc⟩
                obtain ⟨y1, y3⟩ := GU.out wc (HN.out.trans Nc)
                have g2 := (Nc.cells b2 _ (Nat.lt_of_lt_of_le hb2 HZ.out.le)).trans g1
                have NZ := Lib.hid (HZ.out.trans Nc)
                clear g1 hy hh
                go_wp2
                go_quiet (fail)
                go_wp2
                go_roundw
                case rel => exact ⟨0 + 1, by omega, by go_num, Lib.hid (NZ.out.drewN _)⟩
                case measure => simp [intOf]; omega
              · obtain ⟨s, rfl⟩ : ∃ s, t = s + 1 := ⟨t - 1, by omega⟩
                have hs1 := hs s rfl
                obtain ⟨hu', _, _, hy', hh', _⟩ := BT.out s (by omega)
                have g3 := (HZ.out.cells b2 _ hb2).trans (hc2 s (by omega))
                rw [KE.out, kid_at] at g3
                generalize (kidL zs nq p).getD (s + 1) 0 = u at *
                generalize (kidL zs nq p).getD s 0 = v at *
                have u0 : (0 : Int) ≤ (u : Int) := by omega
                have ui : (u : Int) < (nq : Int) := by omega
                have v0 : (0 : Int) ≤ (v : Int) := by omega
                have vi : (v : Int) < (nq : Int) := by omega
                have s0 : (0 : Int) ≤ (s : Int) := by omega
                have si : (s : Int) < (nz : Int) := by omega
                have iw : IntKind.i64.wrap ((s : Int) + 1 - 1) = (s : Int) := by rw [IntWalk.i64_in _ (by omega)]; omega
                have GU := Lib.hid (GC.out u hu)
                have GV := Lib.hid (GC.out v hu')
                generalize (layR zs nq x y u).2.1 = Y at *
                generalize (layR zs nq x y u).2.2.2 = Z at *
                generalize (layR zs nq x y v).2.1 = Y' at *
                generalize (layR zs nq x y v).2.2.2 = Z' at *
                subst hs1
                clear hc2 hs
                go_wp2_with fail
                refine (NaturalSize_any _ nq d1 zs (u : Int) (by omega) _ I3.out).mono ?_
                rw [HX.out, NH.out, NO.out]
                rintro e wc ⟨rfl, Nc⟩
                obtain ⟨y1, y3⟩ := GU.out wc (HN.out.trans Nc)
                obtain ⟨z1, z3⟩ := GV.out wc (HN.out.trans Nc)
                have gg := GT.out (p * 9 + 5) (by omega) wc (HN.out.trans Nc)
                rw [HG.out, ← Nat.add_assoc] at gg
                have g2 := (Nc.cells b2 _ (Nat.lt_of_lt_of_le hb2 HZ.out.le)).trans g1
                have g4 := (Nc.cells b2 _ (Nat.lt_of_lt_of_le hb2 HZ.out.le)).trans g3
                have NZ := Lib.hid (HZ.out.trans Nc)
                have hpos : (0 : Int) < ((s + 1 : Nat) : Int) := by omega
                clear g1 g3
                go_wp2
                go_quiet (fail)
                go_wp2
                go_roundw
                case rel => exact ⟨s + 1 + 1, by omega, by go_num, Lib.hid (NZ.out.drewN _)⟩
                case measure => simp [intOf]; omega
            · go_wp2
              go_roundw
              case rel => exact ⟨p + 1, by omega, by go_num, Lib.hid (NK.out.trans HZ.out)⟩
              case measure => simp [intOf]; omega
        · have kb : (zs.getD (p * 9 + 1) 0 == 1) = false := by simpa using hk1
          have kb2 : (zs.getD (p * 9 + 1) 0 != 1) = true := by simpa using hk1
          generalize zs.getD (p * 9 + 1) 0 = kd1 at *
          clear KE k8 hgap gb
          go_wp2
          go_roundw
          case rel => exact ⟨p + 1, by omega, by go_num, HW⟩
          case measure => simp [intOf]; omega
      · go_wp2
        go_ret
        exact ⟨rfl, NN.out.trans HW.out⟩
end Go.Proofs.Ytbpocogohfmoaaa
