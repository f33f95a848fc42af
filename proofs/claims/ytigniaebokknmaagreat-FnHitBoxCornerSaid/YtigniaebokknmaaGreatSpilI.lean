/- Spilling of the program, walked: the boxes whose hull with the inner rectangle around them is another. Condition: the tree can be read. -/
import Derived.Test.YtigniaebokknmaaGreatYE
namespace Go.Proofs.YtigniaebokknmaaGreat
open Go.RowKit

theorem Ans.ownL {w w' : World} {v : Value} {zs : List Int} {e : Ending} (he : e = .returned v) (h : Own w.heap.size w' v zs) (hN : New w w') : Ans w zs e w' := by
  obtain ⟨A, c, rfl, _, hR⟩ := h.res
  exact ⟨A, zs.length, c, he, rfl, hR, hN⟩
set_option maxRecDepth 100000 in
set_option maxHeartbeats 4000000 in
theorem Spilling_ans (A : Option Addr) (n c : Nat) (zs : List Int) (W H : Int) (hn : n ≤ 1048576) (w : World) (hx : Sts 9 w A n zs) :
    Calls Tryz.prog 11 #[.slice A n c, .int .i64 W, .int .i64 H] w (Ans w (spA n zs W H)) := by
  have HX := Lib.hid hx
  have LA := Lib.hid (LayoutTree_ans A n c zs W H hn w hx)
  have LN := Lib.hid (layA_len (n := n) (zs := zs) (W := W) (H := H))
  have L4 := Lib.hid (flat4_len (layA n zs W H))
  clear hx
  go_enter Tryz.func11, Tryz.ntmps11
  go_wp2_with fail
  refine LA.out.mono ?_
  rintro e w1 ⟨A1, n1, c1, rfl, l1, r1, N1⟩
  have e1 : (layA n zs W H).length = n1 := by have := L4.out; omega
  have R1 := Lib.hid (Sts.of_res (m := 3) r1 l1)
  have n16 : n1 ≤ 16 := by have := LN.out; omega
  have ni : (n1 : Int) ≤ 16 := by omega
  have nj : (0 : Int) ≤ (n1 : Int) := by omega
  have NW := Lib.hid N1
  have E1 := Lib.hid e1
  clear LA LN L4 l1 r1 N1 e1
  go_wp2
  go_loopw [8, 9] (fun v x wr => ∃ k : Nat, 1 ≤ k ∧ (k ≤ n1 ∨ k = 1) ∧ x = .int .i64 k ∧ Hid (Own w1.heap.size wr v (spTo zs n W H k)) ∧ Hid (New w1 wr)) (fun _ x _ => n1 - (intOf x).toNat)
  case atStart => exact ⟨1, Nat.le_refl _, Or.inr rfl, rfl, Lib.hid (by rw [spTo_one]; exact Own.nil _ _), Lib.hid (by (repeat (first | exact New.refl _ | assumption | refine New.alloc ?_ _ | refine New.drew ?_ | refine New.drewN ?_ _ | refine New.setCell ?_ (by first | omega | (simp; omega) | (simp; done)) _ | refine New.trans ?_ (by assumption))))⟩
  case round =>
    obtain ⟨k, hk1, hk, rfl, HO, HN⟩ := hrel
    have k0 : (0 : Int) ≤ (k : Int) := by omega
    obtain ⟨v, hv'⟩ : ∃ v, v = u8 := ⟨_, rfl⟩
    rw [← hv'] at HO ⊢
    clear hv'
    by_cases hlt : k < n1
    · have ki : (k : Int) < (n1 : Int) := by omega
      have ok : layOk n zs W H = true := by
        cases h : layOk n zs W H
        · have := E1.out; rw [layA_no h] at this; simp at this; omega
        · rfl
      obtain rfl : n1 = n := by have := E1.out; rw [layA_yes ok] at this; simpa using this.symm
      obtain ⟨hvt, hx0, hy0⟩ := layOk_iff.1 ok
      obtain ⟨p, a0, a1, a2, a3, pd, r0, r1, r2, r3, c0, c1, c2, c3, hp, hpl, hlp, hpd, hlk, hva, hpb, hn0, hn1, hn2, hn3, hvr, hvc, hsp⟩ := lay_spl hvt hx0 hy0 hk1 hlt
      have p0 : (0 : Int) ≤ (p : Int) := by omega
      have pn : p < n1 := by omega
      have pi : (p : Int) < (n1 : Int) := by omega
      have va := Lib.hid hva; have vr := Lib.hid hvr; have vc := Lib.hid hvc; have pb := hpb
      have N0 := Lib.hid hn0; have N1x := Lib.hid hn1; have N2x := Lib.hid hn2; have N3x := Lib.hid hn3
      have HS := Lib.hid hsp
      have ca := fun q (hq : q < n1) => (lay_at ok hq)
      obtain ⟨b, off, rfl, hb, hc⟩ := R1.out.at_ (by omega)
      have I1 := HX.out.new NW.out
      obtain ⟨b', off', rfl, hb', hc'⟩ := I1.at_ (by omega)
      have f4 := fun q (hq : q < n1) V (hV : New w1 V) => (show V.cell? ⟨b, off + q * 4, none⟩ = some (.int .i64 (layR zs n1 W H q).1) ∧ V.cell? ⟨b, off + q * 4 + 1, none⟩ = some (.int .i64 (layR zs n1 W H q).2.1) ∧ V.cell? ⟨b, off + q * 4 + 2, none⟩ = some (.int .i64 (layR zs n1 W H q).2.2.1) ∧ V.cell? ⟨b, off + q * 4 + 3, none⟩ = some (.int .i64 (layR zs n1 W H q).2.2.2) by
        obtain ⟨v0, v1, v2, v3⟩ := flat4_at (layA n1 zs W H) q
        rw [ca q hq] at v0 v1 v2 v3
        exact ⟨(hV.cells b _ hb).trans ((hc (q * 4) (by omega)).trans (by rw [v0])), (hV.cells b _ hb).trans ((hc (q * 4 + 1) (by omega)).trans (by rw [v1])), (hV.cells b _ hb).trans ((hc (q * 4 + 2) (by omega)).trans (by rw [v2])), (hV.cells b _ hb).trans ((hc (q * 4 + 3) (by omega)).trans (by rw [v3]))⟩)
      have GT := fun q (hq : q < n1 * 9) V (hV : New w1 V) => (hV.cells b' (off' + q) hb').trans (hc' q hq)
      have gp := GT (k * 9) (by omega) wr HN.out
      rw [hp] at gp
      have KF := Lib.hid (fun V (hV : New wr V) => (show V.cell? ⟨b, off + p * 4, none⟩ = some (.int .i64 a0) ∧ V.cell? ⟨b, off + p * 4 + 1, none⟩ = some (.int .i64 a1) ∧ V.cell? ⟨b, off + p * 4 + 2, none⟩ = some (.int .i64 a2) ∧ V.cell? ⟨b, off + p * 4 + 3, none⟩ = some (.int .i64 a3) ∧ V.cell? ⟨b', off' + p * 9 + 4, none⟩ = some (.int .i64 pd) by
        have h1 := f4 p pn V (HN.out.trans hV)
        rw [hlp] at h1
        have h2 := GT (p * 9 + 4) (by omega) V (HN.out.trans hV)
        rw [hpd] at h2
        exact ⟨h1.1, h1.2.1, h1.2.2.1, h1.2.2.2, h2⟩))
      have KG := Lib.hid (fun V (hV : New wr V) => (show V.cell? ⟨b, off + k * 4, none⟩ = some (.int .i64 c0) ∧ V.cell? ⟨b, off + k * 4 + 1, none⟩ = some (.int .i64 c1) ∧ V.cell? ⟨b, off + k * 4 + 2, none⟩ = some (.int .i64 c2) ∧ V.cell? ⟨b, off + k * 4 + 3, none⟩ = some (.int .i64 c3) by
        have h1 := f4 k hlt V (HN.out.trans hV)
        rw [hlk] at h1
        exact h1))
      have ND := Lib.hid (((New.refl wr).alloc (.cells #[.int .i64 0, .int .i64 0, .int .i64 0, .int .i64 0] 31)).drew)
      have K1 := KF.out _ ((New.refl wr).drew)
      have K1b := KF.out _ ND.out
      have RI := Lib.hid ((Row.oneRect wr 0 0 0 0 31).new ((New.refl _).drew))
      have KU0 := Lib.hid (fun V hV => (show World.cell? V ⟨wr.heap.size, 0, none⟩ = some (.int .i64 0) from (RI.out.new hV).c 0 (by simp)))
      have KV0 := Lib.hid (fun V hV => (RI.out.new (w' := V) hV).f 0 (by simp))
      have KU1 := Lib.hid (fun V hV => (show World.cell? V ⟨wr.heap.size, 1, none⟩ = some (.int .i64 0) from (RI.out.new hV).c 1 (by simp)))
      have KV1 := Lib.hid (fun V hV => (RI.out.new (w' := V) hV).f 1 (by simp))
      have KU2 := Lib.hid (fun V hV => (show World.cell? V ⟨wr.heap.size, 2, none⟩ = some (.int .i64 0) from (RI.out.new hV).c 2 (by simp)))
      have KV2 := Lib.hid (fun V hV => (RI.out.new (w' := V) hV).f 2 (by simp))
      have KU3 := Lib.hid (fun V hV => (show World.cell? V ⟨wr.heap.size, 3, none⟩ = some (.int .i64 0) from (RI.out.new hV).c 3 (by simp)))
      have KV3 := Lib.hid (fun V hV => (RI.out.new (w' := V) hV).f 3 (by simp))
      have TL8 := Lib.hid (spTo_len (zs := zs) (n := n1) (k := k) (W := W) (H := H))
      clear hp hlp hpd hlk hva hvr hvc hn0 hn1 hn2 hn3 hsp ca f4 GT hc hc' ok hvt hx0 hy0 I1
      go_wp2
      go_region_held3 (fun w' => w'.cell? ⟨b, off + p * 4, none⟩ = some (.int .i64 a0) ∧ w'.cell? ⟨b, off + p * 4 + 1, none⟩ = some (.int .i64 a1) ∧ w'.cell? ⟨b, off + p * 4 + 2, none⟩ = some (.int .i64 a2) ∧ w'.cell? ⟨b, off + p * 4 + 3, none⟩ = some (.int .i64 a3) ∧ w'.cell? ⟨b', off' + p * 9 + 4, none⟩ = some (.int .i64 pd))
        (first | exact K1 | exact K1b | exact K2 | assumption | exact KF.out _ (by (repeat (first | exact New.refl _ | assumption | refine New.alloc ?_ _ | refine New.drew ?_ | refine New.drewN ?_ _ | refine New.setCell ?_ (by first | omega | (simp; omega) | (simp; done)) _ | refine New.trans ?_ (by assumption)))))
        (first
          | (go_at_call 27; refine (inset_any a0 a1 a2 a3 pd _ va.out pb.1 pb.2).mono ?_; rw [N0.out, N1x.out, N2x.out, N3x.out]; rintro e wc ⟨rfl, Ncx⟩; (have Nc := ((New.refl wr).drew).trans Ncx); (have K2 := KF.out wc Nc); (have scn := Nc.le))
          | (go_at_call 27; refine (inset_any a0 a1 a2 a3 pd _ va.out pb.1 pb.2).mono ?_; rw [N0.out, N1x.out, N2x.out, N3x.out]; rintro e wc ⟨rfl, Ncx⟩; (have Nc := ND.out.trans Ncx); (have K2 := KF.out wc Nc); (have scn := Nc.le); (have u0 := KU0.out wc Ncx); (have u1 := KU1.out wc Ncx); (have u2 := KU2.out wc Ncx); (have u3 := KU3.out wc Ncx); (have f0 := KV0.out wc Ncx); (have f1 := KV1.out wc Ncx); (have f2 := KV2.out wc Ncx); (have f3 := KV3.out wc Ncx)))
      · have RS := Row.oneRect wc r0 r1 r2 r3 31
        have NB := Nc.alloc (.cells #[.int .i64 r0, .int .i64 r1, .int .i64 r2, .int .i64 r3] 31)
        have GS : wc.heap.size < (wc.alloc (.cells #[.int .i64 r0, .int .i64 r1, .int .i64 r2, .int .i64 r3] 31)).heap.size := RS.lt
        have HZ := Lib.hid (HN.out.trans NB)
        generalize hwz : (wc.alloc (.cells #[.int .i64 r0, .int .i64 r1, .int .i64 r2, .int .i64 r3] 31)) = wz at *
        generalize wc.heap.size = g at *
        have KS := Lib.hid (fun V (hV : New wz V) => (show V.cell? ⟨g, 0, none⟩ = some (.int .i64 r0) ∧ V.cell? ⟨g, 1, none⟩ = some (.int .i64 r1) ∧ V.cell? ⟨g, 2, none⟩ = some (.int .i64 r2) ∧ V.cell? ⟨g, 3, none⟩ = some (.int .i64 r3) ∧ V.cell? ⟨b, off + k * 4, none⟩ = some (.int .i64 c0) ∧ V.cell? ⟨b, off + k * 4 + 1, none⟩ = some (.int .i64 c1) ∧ V.cell? ⟨b, off + k * 4 + 2, none⟩ = some (.int .i64 c2) ∧ V.cell? ⟨b, off + k * 4 + 3, none⟩ = some (.int .i64 c3) by
          have RV := RS.new hV
          have h0 := RV.c 0 (by simp); have h1 := RV.c 1 (by simp); have h2 := RV.c 2 (by simp); have h3 := RV.c 3 (by simp)
          simp only [List.getD_cons_zero, List.getD_cons_succ] at h0 h1 h2 h3
          obtain ⟨y0, y1, y2, y3⟩ := KG.out V (NB.trans hV)
          exact ⟨h0, h1, h2, h3, y0, y1, y2, y3⟩))
        have KZ := KS.out _ ((New.refl wz).drew)
        have HOz := Lib.hid (HO.out.new NB)
        clear RS K1 K1b K2 KF KG RI ND NB hwz
        cases hs : splQ (r0, r1, r2, r3) (c0, c1, c2, c3)
        · have hh := Decidable.not_not.1 (of_decide_eq_true (p := ¬ ¬ hulQ (r0, r1, r2, r3) (c0, c1, c2, c3) = (r0, r1, r2, r3)) (by unfold splQ at hs; simpa using hs))
          unfold hulQ at hh
          simp only [Prod.mk.injEq] at hh
          obtain ⟨h0, h1, h2, h3⟩ := hh
          have TN := Lib.hid (spTo_no (W := W) (H := H) (HS.out.trans hs))
          clear hs
          go_wp2
          go_region_held3 (fun w' => w'.cell? ⟨g, 0, none⟩ = some (.int .i64 r0) ∧ w'.cell? ⟨g, 1, none⟩ = some (.int .i64 r1) ∧ w'.cell? ⟨g, 2, none⟩ = some (.int .i64 r2) ∧ w'.cell? ⟨g, 3, none⟩ = some (.int .i64 r3) ∧ w'.cell? ⟨b, off + k * 4, none⟩ = some (.int .i64 c0) ∧ w'.cell? ⟨b, off + k * 4 + 1, none⟩ = some (.int .i64 c1) ∧ w'.cell? ⟨b, off + k * 4 + 2, none⟩ = some (.int .i64 c2) ∧ w'.cell? ⟨b, off + k * 4 + 3, none⟩ = some (.int .i64 c3))
            (first | exact KZ | exact KY | assumption)
            (first | (go_at_call 28; refine (hull_any r0 r1 r2 r3 c0 c1 c2 c3 _ vr.out vc.out).mono ?_; rw [h0, h1, h2, h3]; rintro e wq ⟨rfl, Nq⟩; (have KY := KS.out wq (((New.refl wz).drew).trans Nq)); (have NQ := HZ.out.trans (((New.refl wz).drew).trans Nq)); (have HO2 := HOz.out.new (((New.refl wz).drew).trans Nq))))
          go_wp2
          go_roundw
          case rel => exact ⟨k + 1, by omega, by omega, by go_num, Lib.hid (by rw [TN.out]; exact HO2), Lib.hid NQ⟩
          case measure => simp [intOf]; omega
        · have TN := Lib.hid (spTo_yes (W := W) (H := H) hk1 (HS.out.trans hs))
          have hne : ¬ (mn r0 c0 = r0 ∧ mn r1 c1 = r1 ∧ uW r0 r2 c0 c2 = r2 ∧ uW r1 r3 c1 c3 = r3) := fun h => by
            have := of_decide_eq_true hs
            exact this (by unfold hulQ; rw [h.1, h.2.1, h.2.2.1, h.2.2.2])
          clear hs
          obtain ⟨m0, h0⟩ : ∃ m0, mn r0 c0 = m0 := ⟨_, rfl⟩
          obtain ⟨m1, h1⟩ : ∃ m1, mn r1 c1 = m1 := ⟨_, rfl⟩
          obtain ⟨m2, h2⟩ : ∃ m2, uW r0 r2 c0 c2 = m2 := ⟨_, rfl⟩
          obtain ⟨m3, h3⟩ : ∃ m3, uW r1 r3 c1 c3 = m3 := ⟨_, rfl⟩
          rw [h0, h1, h2, h3] at hne
          have hor : ¬ m0 = r0 ∨ ¬ m1 = r1 ∨ ¬ m2 = r2 ∨ ¬ m3 = r3 := by omega
          clear hne
          rcases hor with hd | hd | hd | hd
          · have d1 : (m0 == r0) = false := by simpa using hd
            have d2 : decide (m0 = r0) = false := decide_eq_false hd
            go_wp2
            go_region_held3 (fun w' => w'.cell? ⟨g, 0, none⟩ = some (.int .i64 r0) ∧ w'.cell? ⟨g, 1, none⟩ = some (.int .i64 r1) ∧ w'.cell? ⟨g, 2, none⟩ = some (.int .i64 r2) ∧ w'.cell? ⟨g, 3, none⟩ = some (.int .i64 r3) ∧ w'.cell? ⟨b, off + k * 4, none⟩ = some (.int .i64 c0) ∧ w'.cell? ⟨b, off + k * 4 + 1, none⟩ = some (.int .i64 c1) ∧ w'.cell? ⟨b, off + k * 4 + 2, none⟩ = some (.int .i64 c2) ∧ w'.cell? ⟨b, off + k * 4 + 3, none⟩ = some (.int .i64 c3))
              (first | exact KZ | exact KY | assumption)
              (first | (go_at_call 28; refine (hull_any r0 r1 r2 r3 c0 c1 c2 c3 _ vr.out vc.out).mono ?_; rw [h0, h1, h2, h3]; rintro e wq ⟨rfl, Nq⟩; (have KY := KS.out wq (((New.refl wz).drew).trans Nq)); (have NQ := HZ.out.trans (((New.refl wz).drew).trans Nq)); (have HO2 := HOz.out.new (((New.refl wz).drew).trans Nq))))
            have zq := NQ.le
            go_wp2_with (at_builtin; refine wp_app rfl _ _ rfl w1.heap.size v _ rfl (HO2.alloc _) (some ⟨wq.heap.size, 0, none⟩) 1 1 [(k : Int)] rfl (Ints.one wq _ _) (by have := TL8.out; omega) (by simp; omega) ?_; intro v6 w6 O6 G6; (have N6 := Lib.hid (new_own (NQ.alloc _) G6 (HO2.alloc _) (Nat.le_refl _))); (replace O6 := Lib.hid O6); clear G6)
            go_roundw
            case rel => exact ⟨k + 1, by omega, by omega, by go_num, Lib.hid (by rw [TN.out]; exact O6.out), N6⟩
            case measure => simp [intOf]; omega
          · have d1 : (m1 == r1) = false := by simpa using hd
            have d2 : decide (m1 = r1) = false := decide_eq_false hd
            go_wp2
            go_region_held3 (fun w' => w'.cell? ⟨g, 0, none⟩ = some (.int .i64 r0) ∧ w'.cell? ⟨g, 1, none⟩ = some (.int .i64 r1) ∧ w'.cell? ⟨g, 2, none⟩ = some (.int .i64 r2) ∧ w'.cell? ⟨g, 3, none⟩ = some (.int .i64 r3) ∧ w'.cell? ⟨b, off + k * 4, none⟩ = some (.int .i64 c0) ∧ w'.cell? ⟨b, off + k * 4 + 1, none⟩ = some (.int .i64 c1) ∧ w'.cell? ⟨b, off + k * 4 + 2, none⟩ = some (.int .i64 c2) ∧ w'.cell? ⟨b, off + k * 4 + 3, none⟩ = some (.int .i64 c3))
              (first | exact KZ | exact KY | assumption)
              (first | (go_at_call 28; refine (hull_any r0 r1 r2 r3 c0 c1 c2 c3 _ vr.out vc.out).mono ?_; rw [h0, h1, h2, h3]; rintro e wq ⟨rfl, Nq⟩; (have KY := KS.out wq (((New.refl wz).drew).trans Nq)); (have NQ := HZ.out.trans (((New.refl wz).drew).trans Nq)); (have HO2 := HOz.out.new (((New.refl wz).drew).trans Nq))))
            have zq := NQ.le
            go_wp2_with (at_builtin; refine wp_app rfl _ _ rfl w1.heap.size v _ rfl (HO2.alloc _) (some ⟨wq.heap.size, 0, none⟩) 1 1 [(k : Int)] rfl (Ints.one wq _ _) (by have := TL8.out; omega) (by simp; omega) ?_; intro v6 w6 O6 G6; (have N6 := Lib.hid (new_own (NQ.alloc _) G6 (HO2.alloc _) (Nat.le_refl _))); (replace O6 := Lib.hid O6); clear G6)
            go_roundw
            case rel => exact ⟨k + 1, by omega, by omega, by go_num, Lib.hid (by rw [TN.out]; exact O6.out), N6⟩
            case measure => simp [intOf]; omega
          · have d1 : (m2 == r2) = false := by simpa using hd
            have d2 : decide (m2 = r2) = false := decide_eq_false hd
            go_wp2
            go_region_held3 (fun w' => w'.cell? ⟨g, 0, none⟩ = some (.int .i64 r0) ∧ w'.cell? ⟨g, 1, none⟩ = some (.int .i64 r1) ∧ w'.cell? ⟨g, 2, none⟩ = some (.int .i64 r2) ∧ w'.cell? ⟨g, 3, none⟩ = some (.int .i64 r3) ∧ w'.cell? ⟨b, off + k * 4, none⟩ = some (.int .i64 c0) ∧ w'.cell? ⟨b, off + k * 4 + 1, none⟩ = some (.int .i64 c1) ∧ w'.cell? ⟨b, off + k * 4 + 2, none⟩ = some (.int .i64 c2) ∧ w'.cell? ⟨b, off + k * 4 + 3, none⟩ = some (.int .i64 c3))
              (first | exact KZ | exact KY | assumption)
              (first | (go_at_call 28; refine (hull_any r0 r1 r2 r3 c0 c1 c2 c3 _ vr.out vc.out).mono ?_; rw [h0, h1, h2, h3]; rintro e wq ⟨rfl, Nq⟩; (have KY := KS.out wq (((New.refl wz).drew).trans Nq)); (have NQ := HZ.out.trans (((New.refl wz).drew).trans Nq)); (have HO2 := HOz.out.new (((New.refl wz).drew).trans Nq))))
            have zq := NQ.le
            go_wp2_with (at_builtin; refine wp_app rfl _ _ rfl w1.heap.size v _ rfl (HO2.alloc _) (some ⟨wq.heap.size, 0, none⟩) 1 1 [(k : Int)] rfl (Ints.one wq _ _) (by have := TL8.out; omega) (by simp; omega) ?_; intro v6 w6 O6 G6; (have N6 := Lib.hid (new_own (NQ.alloc _) G6 (HO2.alloc _) (Nat.le_refl _))); (replace O6 := Lib.hid O6); clear G6)
            go_roundw
            case rel => exact ⟨k + 1, by omega, by omega, by go_num, Lib.hid (by rw [TN.out]; exact O6.out), N6⟩
            case measure => simp [intOf]; omega
          · have d1 : (m3 == r3) = false := by simpa using hd
            have d2 : decide (m3 = r3) = false := decide_eq_false hd
            go_wp2
            go_region_held3 (fun w' => w'.cell? ⟨g, 0, none⟩ = some (.int .i64 r0) ∧ w'.cell? ⟨g, 1, none⟩ = some (.int .i64 r1) ∧ w'.cell? ⟨g, 2, none⟩ = some (.int .i64 r2) ∧ w'.cell? ⟨g, 3, none⟩ = some (.int .i64 r3) ∧ w'.cell? ⟨b, off + k * 4, none⟩ = some (.int .i64 c0) ∧ w'.cell? ⟨b, off + k * 4 + 1, none⟩ = some (.int .i64 c1) ∧ w'.cell? ⟨b, off + k * 4 + 2, none⟩ = some (.int .i64 c2) ∧ w'.cell? ⟨b, off + k * 4 + 3, none⟩ = some (.int .i64 c3))
              (first | exact KZ | exact KY | assumption)
              (first | (go_at_call 28; refine (hull_any r0 r1 r2 r3 c0 c1 c2 c3 _ vr.out vc.out).mono ?_; rw [h0, h1, h2, h3]; rintro e wq ⟨rfl, Nq⟩; (have KY := KS.out wq (((New.refl wz).drew).trans Nq)); (have NQ := HZ.out.trans (((New.refl wz).drew).trans Nq)); (have HO2 := HOz.out.new (((New.refl wz).drew).trans Nq))))
            have zq := NQ.le
            go_wp2_with (at_builtin; refine wp_app rfl _ _ rfl w1.heap.size v _ rfl (HO2.alloc _) (some ⟨wq.heap.size, 0, none⟩) 1 1 [(k : Int)] rfl (Ints.one wq _ _) (by have := TL8.out; omega) (by simp; omega) ?_; intro v6 w6 O6 G6; (have N6 := Lib.hid (new_own (NQ.alloc _) G6 (HO2.alloc _) (Nat.le_refl _))); (replace O6 := Lib.hid O6); clear G6)
            go_roundw
            case rel => exact ⟨k + 1, by omega, by omega, by go_num, Lib.hid (by rw [TN.out]; exact O6.out), N6⟩
            case measure => simp [intOf]; omega
      · have RC := RI.out.new Ncx
        have RS : Row ((((wc.setCell ⟨wr.heap.size, 0, none⟩ (.int .i64 r0)).setCell ⟨wr.heap.size, 1, none⟩ (.int .i64 r1)).setCell ⟨wr.heap.size, 2, none⟩ (.int .i64 r2)).setCell ⟨wr.heap.size, 3, none⟩ (.int .i64 r3)) wr.heap.size [r0, r1, r2, r3] := (((RC.set_ (k := 0) (by simp) r0).set_ (k := 1) (by simp) r1).set_ (k := 2) (by simp) r2).set_ (k := 3) (by simp) r3
        have NB : New wr ((((wc.setCell ⟨wr.heap.size, 0, none⟩ (.int .i64 r0)).setCell ⟨wr.heap.size, 1, none⟩ (.int .i64 r1)).setCell ⟨wr.heap.size, 2, none⟩ (.int .i64 r2)).setCell ⟨wr.heap.size, 3, none⟩ (.int .i64 r3)) := (((Nc.setCell (Nat.le_refl _) _).setCell (Nat.le_refl _) _).setCell (Nat.le_refl _) _).setCell (Nat.le_refl _) _
        clear RC u0 u1 u2 u3 f0 f1 f2 f3
        have GS : wr.heap.size < ((((wc.setCell ⟨wr.heap.size, 0, none⟩ (.int .i64 r0)).setCell ⟨wr.heap.size, 1, none⟩ (.int .i64 r1)).setCell ⟨wr.heap.size, 2, none⟩ (.int .i64 r2)).setCell ⟨wr.heap.size, 3, none⟩ (.int .i64 r3)).heap.size := RS.lt
        have HZ := Lib.hid (HN.out.trans NB)
        generalize hwz : ((((wc.setCell ⟨wr.heap.size, 0, none⟩ (.int .i64 r0)).setCell ⟨wr.heap.size, 1, none⟩ (.int .i64 r1)).setCell ⟨wr.heap.size, 2, none⟩ (.int .i64 r2)).setCell ⟨wr.heap.size, 3, none⟩ (.int .i64 r3)) = wz at *
        generalize wr.heap.size = g at *
        have KS := Lib.hid (fun V (hV : New wz V) => (show V.cell? ⟨g, 0, none⟩ = some (.int .i64 r0) ∧ V.cell? ⟨g, 1, none⟩ = some (.int .i64 r1) ∧ V.cell? ⟨g, 2, none⟩ = some (.int .i64 r2) ∧ V.cell? ⟨g, 3, none⟩ = some (.int .i64 r3) ∧ V.cell? ⟨b, off + k * 4, none⟩ = some (.int .i64 c0) ∧ V.cell? ⟨b, off + k * 4 + 1, none⟩ = some (.int .i64 c1) ∧ V.cell? ⟨b, off + k * 4 + 2, none⟩ = some (.int .i64 c2) ∧ V.cell? ⟨b, off + k * 4 + 3, none⟩ = some (.int .i64 c3) by
          have RV := RS.new hV
          have h0 := RV.c 0 (by simp); have h1 := RV.c 1 (by simp); have h2 := RV.c 2 (by simp); have h3 := RV.c 3 (by simp)
          simp only [List.getD_cons_zero, List.getD_cons_succ] at h0 h1 h2 h3
          obtain ⟨y0, y1, y2, y3⟩ := KG.out V (NB.trans hV)
          exact ⟨h0, h1, h2, h3, y0, y1, y2, y3⟩))
        have KZ := KS.out _ ((New.refl wz).drew)
        have HOz := Lib.hid (HO.out.new NB)
        clear RS K1 K1b K2 KF KG RI ND NB hwz
        cases hs : splQ (r0, r1, r2, r3) (c0, c1, c2, c3)
        · have hh := Decidable.not_not.1 (of_decide_eq_true (p := ¬ ¬ hulQ (r0, r1, r2, r3) (c0, c1, c2, c3) = (r0, r1, r2, r3)) (by unfold splQ at hs; simpa using hs))
          unfold hulQ at hh
          simp only [Prod.mk.injEq] at hh
          obtain ⟨h0, h1, h2, h3⟩ := hh
          have TN := Lib.hid (spTo_no (W := W) (H := H) (HS.out.trans hs))
          clear hs
          go_wp2
          go_region_held3 (fun w' => w'.cell? ⟨g, 0, none⟩ = some (.int .i64 r0) ∧ w'.cell? ⟨g, 1, none⟩ = some (.int .i64 r1) ∧ w'.cell? ⟨g, 2, none⟩ = some (.int .i64 r2) ∧ w'.cell? ⟨g, 3, none⟩ = some (.int .i64 r3) ∧ w'.cell? ⟨b, off + k * 4, none⟩ = some (.int .i64 c0) ∧ w'.cell? ⟨b, off + k * 4 + 1, none⟩ = some (.int .i64 c1) ∧ w'.cell? ⟨b, off + k * 4 + 2, none⟩ = some (.int .i64 c2) ∧ w'.cell? ⟨b, off + k * 4 + 3, none⟩ = some (.int .i64 c3))
            (first | exact KZ | exact KY | assumption)
            (first | (go_at_call 28; refine (hull_any r0 r1 r2 r3 c0 c1 c2 c3 _ vr.out vc.out).mono ?_; rw [h0, h1, h2, h3]; rintro e wq ⟨rfl, Nq⟩; (have KY := KS.out wq (((New.refl wz).drew).trans Nq)); (have NQ := HZ.out.trans (((New.refl wz).drew).trans Nq)); (have HO2 := HOz.out.new (((New.refl wz).drew).trans Nq))))
          go_wp2
          go_roundw
          case rel => exact ⟨k + 1, by omega, by omega, by go_num, Lib.hid (by rw [TN.out]; exact HO2), Lib.hid NQ⟩
          case measure => simp [intOf]; omega
        · have TN := Lib.hid (spTo_yes (W := W) (H := H) hk1 (HS.out.trans hs))
          have hne : ¬ (mn r0 c0 = r0 ∧ mn r1 c1 = r1 ∧ uW r0 r2 c0 c2 = r2 ∧ uW r1 r3 c1 c3 = r3) := fun h => by
            have := of_decide_eq_true hs
            exact this (by unfold hulQ; rw [h.1, h.2.1, h.2.2.1, h.2.2.2])
          clear hs
          obtain ⟨m0, h0⟩ : ∃ m0, mn r0 c0 = m0 := ⟨_, rfl⟩
          obtain ⟨m1, h1⟩ : ∃ m1, mn r1 c1 = m1 := ⟨_, rfl⟩
          obtain ⟨m2, h2⟩ : ∃ m2, uW r0 r2 c0 c2 = m2 := ⟨_, rfl⟩
          obtain ⟨m3, h3⟩ : ∃ m3, uW r1 r3 c1 c3 = m3 := ⟨_, rfl⟩
          rw [h0, h1, h2, h3] at hne
          have hor : ¬ m0 = r0 ∨ ¬ m1 = r1 ∨ ¬ m2 = r2 ∨ ¬ m3 = r3 := by omega
          clear hne
          rcases hor with hd | hd | hd | hd
          · have d1 : (m0 == r0) = false := by simpa using hd
            have d2 : decide (m0 = r0) = false := decide_eq_false hd
            go_wp2
            go_region_held3 (fun w' => w'.cell? ⟨g, 0, none⟩ = some (.int .i64 r0) ∧ w'.cell? ⟨g, 1, none⟩ = some (.int .i64 r1) ∧ w'.cell? ⟨g, 2, none⟩ = some (.int .i64 r2) ∧ w'.cell? ⟨g, 3, none⟩ = some (.int .i64 r3) ∧ w'.cell? ⟨b, off + k * 4, none⟩ = some (.int .i64 c0) ∧ w'.cell? ⟨b, off + k * 4 + 1, none⟩ = some (.int .i64 c1) ∧ w'.cell? ⟨b, off + k * 4 + 2, none⟩ = some (.int .i64 c2) ∧ w'.cell? ⟨b, off + k * 4 + 3, none⟩ = some (.int .i64 c3))
              (first | exact KZ | exact KY | assumption)
              (first | (go_at_call 28; refine (hull_any r0 r1 r2 r3 c0 c1 c2 c3 _ vr.out vc.out).mono ?_; rw [h0, h1, h2, h3]; rintro e wq ⟨rfl, Nq⟩; (have KY := KS.out wq (((New.refl wz).drew).trans Nq)); (have NQ := HZ.out.trans (((New.refl wz).drew).trans Nq)); (have HO2 := HOz.out.new (((New.refl wz).drew).trans Nq))))
            have zq := NQ.le
            go_wp2_with (at_builtin; refine wp_app rfl _ _ rfl w1.heap.size v _ rfl (HO2.alloc _) (some ⟨wq.heap.size, 0, none⟩) 1 1 [(k : Int)] rfl (Ints.one wq _ _) (by have := TL8.out; omega) (by simp; omega) ?_; intro v6 w6 O6 G6; (have N6 := Lib.hid (new_own (NQ.alloc _) G6 (HO2.alloc _) (Nat.le_refl _))); (replace O6 := Lib.hid O6); clear G6)
            go_roundw
            case rel => exact ⟨k + 1, by omega, by omega, by go_num, Lib.hid (by rw [TN.out]; exact O6.out), N6⟩
            case measure => simp [intOf]; omega
          · have d1 : (m1 == r1) = false := by simpa using hd
            have d2 : decide (m1 = r1) = false := decide_eq_false hd
            go_wp2
            go_region_held3 (fun w' => w'.cell? ⟨g, 0, none⟩ = some (.int .i64 r0) ∧ w'.cell? ⟨g, 1, none⟩ = some (.int .i64 r1) ∧ w'.cell? ⟨g, 2, none⟩ = some (.int .i64 r2) ∧ w'.cell? ⟨g, 3, none⟩ = some (.int .i64 r3) ∧ w'.cell? ⟨b, off + k * 4, none⟩ = some (.int .i64 c0) ∧ w'.cell? ⟨b, off + k * 4 + 1, none⟩ = some (.int .i64 c1) ∧ w'.cell? ⟨b, off + k * 4 + 2, none⟩ = some (.int .i64 c2) ∧ w'.cell? ⟨b, off + k * 4 + 3, none⟩ = some (.int .i64 c3))
              (first | exact KZ | exact KY | assumption)
              (first | (go_at_call 28; refine (hull_any r0 r1 r2 r3 c0 c1 c2 c3 _ vr.out vc.out).mono ?_; rw [h0, h1, h2, h3]; rintro e wq ⟨rfl, Nq⟩; (have KY := KS.out wq (((New.refl wz).drew).trans Nq)); (have NQ := HZ.out.trans (((New.refl wz).drew).trans Nq)); (have HO2 := HOz.out.new (((New.refl wz).drew).trans Nq))))
            have zq := NQ.le
            go_wp2_with (at_builtin; refine wp_app rfl _ _ rfl w1.heap.size v _ rfl (HO2.alloc _) (some ⟨wq.heap.size, 0, none⟩) 1 1 [(k : Int)] rfl (Ints.one wq _ _) (by have := TL8.out; omega) (by simp; omega) ?_; intro v6 w6 O6 G6; (have N6 := Lib.hid (new_own (NQ.alloc _) G6 (HO2.alloc _) (Nat.le_refl _))); (replace O6 := Lib.hid O6); clear G6)
            go_roundw
            case rel => exact ⟨k + 1, by omega, by omega, by go_num, Lib.hid (by rw [TN.out]; exact O6.out), N6⟩
            case measure => simp [intOf]; omega
          · have d1 : (m2 == r2) = false := by simpa using hd
            have d2 : decide (m2 = r2) = false := decide_eq_false hd
            go_wp2
            go_region_held3 (fun w' => w'.cell? ⟨g, 0, none⟩ = some (.int .i64 r0) ∧ w'.cell? ⟨g, 1, none⟩ = some (.int .i64 r1) ∧ w'.cell? ⟨g, 2, none⟩ = some (.int .i64 r2) ∧ w'.cell? ⟨g, 3, none⟩ = some (.int .i64 r3) ∧ w'.cell? ⟨b, off + k * 4, none⟩ = some (.int .i64 c0) ∧ w'.cell? ⟨b, off + k * 4 + 1, none⟩ = some (.int .i64 c1) ∧ w'.cell? ⟨b, off + k * 4 + 2, none⟩ = some (.int .i64 c2) ∧ w'.cell? ⟨b, off + k * 4 + 3, none⟩ = some (.int .i64 c3))
              (first | exact KZ | exact KY | assumption)
              (first | (go_at_call 28; refine (hull_any r0 r1 r2 r3 c0 c1 c2 c3 _ vr.out vc.out).mono ?_; rw [h0, h1, h2, h3]; rintro e wq ⟨rfl, Nq⟩; (have KY := KS.out wq (((New.refl wz).drew).trans Nq)); (have NQ := HZ.out.trans (((New.refl wz).drew).trans Nq)); (have HO2 := HOz.out.new (((New.refl wz).drew).trans Nq))))
            have zq := NQ.le
            go_wp2_with (at_builtin; refine wp_app rfl _ _ rfl w1.heap.size v _ rfl (HO2.alloc _) (some ⟨wq.heap.size, 0, none⟩) 1 1 [(k : Int)] rfl (Ints.one wq _ _) (by have := TL8.out; omega) (by simp; omega) ?_; intro v6 w6 O6 G6; (have N6 := Lib.hid (new_own (NQ.alloc _) G6 (HO2.alloc _) (Nat.le_refl _))); (replace O6 := Lib.hid O6); clear G6)
            go_roundw
            case rel => exact ⟨k + 1, by omega, by omega, by go_num, Lib.hid (by rw [TN.out]; exact O6.out), N6⟩
            case measure => simp [intOf]; omega
          · have d1 : (m3 == r3) = false := by simpa using hd
            have d2 : decide (m3 = r3) = false := decide_eq_false hd
            go_wp2
            go_region_held3 (fun w' => w'.cell? ⟨g, 0, none⟩ = some (.int .i64 r0) ∧ w'.cell? ⟨g, 1, none⟩ = some (.int .i64 r1) ∧ w'.cell? ⟨g, 2, none⟩ = some (.int .i64 r2) ∧ w'.cell? ⟨g, 3, none⟩ = some (.int .i64 r3) ∧ w'.cell? ⟨b, off + k * 4, none⟩ = some (.int .i64 c0) ∧ w'.cell? ⟨b, off + k * 4 + 1, none⟩ = some (.int .i64 c1) ∧ w'.cell? ⟨b, off + k * 4 + 2, none⟩ = some (.int .i64 c2) ∧ w'.cell? ⟨b, off + k * 4 + 3, none⟩ = some (.int .i64 c3))
              (first | exact KZ | exact KY | assumption)
              (first | (go_at_call 28; refine (hull_any r0 r1 r2 r3 c0 c1 c2 c3 _ vr.out vc.out).mono ?_; rw [h0, h1, h2, h3]; rintro e wq ⟨rfl, Nq⟩; (have KY := KS.out wq (((New.refl wz).drew).trans Nq)); (have NQ := HZ.out.trans (((New.refl wz).drew).trans Nq)); (have HO2 := HOz.out.new (((New.refl wz).drew).trans Nq))))
            have zq := NQ.le
            go_wp2_with (at_builtin; refine wp_app rfl _ _ rfl w1.heap.size v _ rfl (HO2.alloc _) (some ⟨wq.heap.size, 0, none⟩) 1 1 [(k : Int)] rfl (Ints.one wq _ _) (by have := TL8.out; omega) (by simp; omega) ?_; intro v6 w6 O6 G6; (have N6 := Lib.hid (new_own (NQ.alloc _) G6 (HO2.alloc _) (Nat.le_refl _))); (replace O6 := Lib.hid O6); clear G6)
            go_roundw
            case rel => exact ⟨k + 1, by omega, by omega, by go_num, Lib.hid (by rw [TN.out]; exact O6.out), N6⟩
            case measure => simp [intOf]; omega
    · go_wp2
      go_ret
      have hE : spA n zs W H = spTo zs n W H k := by
        unfold spA
        cases h : layOk n zs W H
        · have := E1.out; rw [layA_no h] at this; simp at this
          obtain rfl : k = 1 := by omega
          rw [spTo_one]; rfl
        · have := E1.out; rw [layA_yes h] at this; simp at this
          have hv1 := (vtB_iff.1 (layOk_iff.1 h).1).1
          obtain rfl : k = n := by omega
          rfl
      rw [hE]
      exact Ans.ownL rfl ⟨HO.out.1, HO.out.2.imp id (fun ⟨g, cap, cur, a1, a2, a3⟩ => ⟨g, cap, cur, a1, Nat.le_trans NW.out.le a2, a3⟩)⟩ (NW.out.trans HN.out)
end Go.Proofs.YtigniaebokknmaaGreat
