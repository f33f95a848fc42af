/- Spilling of the reference, walked: the boxes a side of which lies beyond the inner rectangle around them. Condition: the tree can be read. -/
import Derived.Test.YtigniaebokknmaaGreatYE
import Derived.Test.YtigniaebokknmaaGreatAppE
import Derived.Test.YtigniaebokknmaaGreatSeenB
namespace Go.Proofs.YtigniaebokknmaaGreat
open Go.RowKit

theorem splQ_iff {q0 q1 q2 q3 c0 c1 c2 c3 : Int} : splQ (q0, q1, q2, q3) (c0, c1, c2, c3) = true ↔ (c0 < q0 ∨ c1 < q1 ∨ q0 + q2 < c0 + c2 ∨ q1 + q3 < c1 + c3) := by
  unfold splQ hulQ
  rw [decide_eq_true_iff]
  simp only [ne_eq, Prod.mk.injEq]
  unfold mn uW mx mn
  omega
theorem spA_len {n : Nat} {zs : List Int} {W H : Int} : (spA n zs W H).length ≤ 16 := by
  unfold spA
  split
  · next h => have := spTo_len (zs := zs) (n := n) (k := n) (W := W) (H := H); have := (vtB_iff.1 (layOk_iff.1 h).1).1; omega
  · simp
set_option maxRecDepth 100000 in
set_option maxHeartbeats 4000000 in
theorem SSpilling_ans (A : Option Addr) (n c : Nat) (zs : List Int) (W H : Int) (hn : n ≤ 1048576) (w : World) (hx : Sts 9 w A n zs) :
    Calls Tryz.prog 14 #[.slice A n c, .int .i64 W, .int .i64 H] w (Ans w (spA n zs W H)) := by
  have LA := Lib.hid (fun W1 (hW : New w W1) => SLayoutTree_ans A n c zs W H hn W1 (hx.new hW))
  have LN := Lib.hid (layA_len (n := n) (zs := zs) (W := W) (H := H))
  have L4 := Lib.hid (flat4_len (layA n zs W H))
  have HX := Lib.hid hx
  clear hx
  go_enter Tryz.func14, Tryz.ntmps14
  go_wp2_with fail
  refine (LA.out _ (by (repeat (first | exact New.refl _ | assumption | refine New.alloc ?_ _ | refine New.drew ?_ | refine New.drewN ?_ _ | refine New.setCell ?_ (by first | omega | (simp; omega) | (simp; done)) _ | refine New.trans ?_ (by assumption))))).mono ?_
  rintro e w1 ⟨A1, n1, c1, rfl, l1, r1, N1⟩
  have e1 : (layA n zs W H).length = n1 := by have := L4.out; omega
  have R1 := Lib.hid (Sts.of_res (m := 3) r1 l1)
  have n16 : n1 ≤ 16 := by have := LN.out; omega
  have ni : (n1 : Int) ≤ 16 := by omega
  have nj : (0 : Int) ≤ (n1 : Int) := by omega
  have NW := Lib.hid (show New w w1 from New.trans (by (repeat (first | exact New.refl _ | assumption | refine New.alloc ?_ _ | refine New.drew ?_ | refine New.drewN ?_ _ | refine New.setCell ?_ (by first | omega | (simp; omega) | (simp; done)) _ | refine New.trans ?_ (by assumption)))) N1)
  have E1 := Lib.hid e1
  have HX := Lib.hid (HX.out.new NW.out)
  have sw : w.heap.size + 1 ≤ w1.heap.size := by have := N1.le; simpa using this
  clear LA LN L4 l1 r1 N1 e1
  rcases Nat.eq_zero_or_pos n1 with h0 | h0
  · subst h0
    have hE : Hid (spA n zs W H = []) := Lib.hid (by
      unfold spA
      cases h : layOk n zs W H
      · rfl
      · have := E1.out; rw [layA_yes h] at this; simp at this; subst this; rfl)
    go_wp2
    go_ret
    rw [hE.out]
    exact Ans.none_ rfl NW.out
  have nb : ((n1 : Int) == 0) = false := by simp; omega
  have ok : layOk n zs W H = true := by
    cases h : layOk n zs W H
    · have := E1.out; rw [layA_no h] at this; simp at this; omega
    · rfl
  obtain rfl : n1 = n := by have := E1.out; rw [layA_yes ok] at this; simpa using this.symm
  obtain ⟨hvt, hx0, hy0⟩ := layOk_iff.1 ok
  have hE : Hid (spA n1 zs W H = spTo zs n1 W H n1) := Lib.hid (by unfold spA; rw [if_pos ok])
  obtain ⟨b, off, rfl, hb, hc⟩ := R1.out.at_ (by omega)
  obtain ⟨b', off', rfl, hb', hc'⟩ := HX.out.at_ (by omega)
  have f4 := Lib.hid (fun q (hq : q < n1) V (hV : New w1 V) => (show V.cell? ⟨b, off + q * 4, none⟩ = some (.int .i64 (layR zs n1 W H q).1) ∧ V.cell? ⟨b, off + q * 4 + 1, none⟩ = some (.int .i64 (layR zs n1 W H q).2.1) ∧ V.cell? ⟨b, off + q * 4 + 2, none⟩ = some (.int .i64 (layR zs n1 W H q).2.2.1) ∧ V.cell? ⟨b, off + q * 4 + 3, none⟩ = some (.int .i64 (layR zs n1 W H q).2.2.2) by
    obtain ⟨v0, v1, v2, v3⟩ := flat4_at (layA n1 zs W H) q
    rw [lay_at ok hq] at v0 v1 v2 v3
    exact ⟨(hV.cells b _ hb).trans ((hc (q * 4) (by omega)).trans (by rw [v0])), (hV.cells b _ hb).trans ((hc (q * 4 + 1) (by omega)).trans (by rw [v1])), (hV.cells b _ hb).trans ((hc (q * 4 + 2) (by omega)).trans (by rw [v2])), (hV.cells b _ hb).trans ((hc (q * 4 + 3) (by omega)).trans (by rw [v3]))⟩))
  have GT := Lib.hid (fun q (hq : q < n1 * 9) V (hV : New w1 V) => (hV.cells b' (off' + q) hb').trans (hc' q hq))
  have LS := Lib.hid (fun i (h1 : 0 < i) (hi : i < n1) => lay_spl hvt hx0 hy0 h1 hi)
  clear hc hc' ok hvt hx0 hy0 R1 HX E1
  go_wp2
  go_loopw [7, 9] (fun v x wr => ∃ k : Nat, 1 ≤ k ∧ k ≤ n1 ∧ x = .int .i64 k ∧ Hid (OwnE w1.heap.size w.heap.size wr v (spTo zs n1 W H k)) ∧ Hid (New w1 wr)) (fun _ x _ => n1 - (intOf x).toNat)
  case atStart => exact ⟨1, Nat.le_refl _, h0, rfl, Lib.hid (.inl ⟨rfl, spTo_one⟩), Lib.hid (New.refl _)⟩
  case round =>
    obtain ⟨k, hk1, hk, rfl, HO, HN⟩ := hrel
    have k0 : (0 : Int) ≤ (k : Int) := by omega
    by_cases hlt : k < n1
    · have ki : (k : Int) < (n1 : Int) := by omega
      obtain ⟨p, a0, a1, a2, a3, pd, r0, r1, r2, r3, c0, c1, c2, c3, hp, hpl, hlp, hpd, hlk, hva, hpb, hn0, hn1, hn2, hn3, hvr, hvc, hsp⟩ := LS.out k hk1 hlt
      have p0 : (0 : Int) ≤ (p : Int) := by omega
      have pn : p < n1 := by omega
      have pi : (p : Int) < (n1 : Int) := by omega
      have va := Lib.hid hva; have pb := hpb
      have N0 := Lib.hid hn0; have N1x := Lib.hid hn1; have N2x := Lib.hid hn2; have N3x := Lib.hid hn3
      obtain ⟨q1, q2, q3, q4, q5, q6, q7, q8⟩ := vR_iff.1 hvr
      obtain ⟨s1, s2, s3, s4, s5, s6, s7, s8⟩ := vR_iff.1 hvc
      have SI := splQ_iff (q0 := r0) (q1 := r1) (c0 := c0) (c1 := c1) (q2 := r2) (q3 := r3) (c2 := c2) (c3 := c3)
      rw [← hsp] at SI
      have YES_ := Lib.hid (fun h => spTo_yes (W := W) (H := H) hk1 (SI.2 h))
      have NO_ := Lib.hid (fun (h : ¬ (c0 < r0 ∨ c1 < r1 ∨ r0 + r2 < c0 + c2 ∨ r1 + r3 < c1 + c3)) => spTo_no (W := W) (H := H) (Bool.eq_false_iff.2 (fun e => h (SI.1 e))))
      have gp := GT.out (k * 9) (by omega) wr HN.out
      rw [hp] at gp
      have KF := Lib.hid (fun V (hV : New wr V) => (show V.cell? ⟨b, off + p * 4, none⟩ = some (.int .i64 a0) ∧ V.cell? ⟨b, off + p * 4 + 1, none⟩ = some (.int .i64 a1) ∧ V.cell? ⟨b, off + p * 4 + 2, none⟩ = some (.int .i64 a2) ∧ V.cell? ⟨b, off + p * 4 + 3, none⟩ = some (.int .i64 a3) ∧ V.cell? ⟨b', off' + p * 9 + 4, none⟩ = some (.int .i64 pd) by
        have h1 := f4.out p pn V (HN.out.trans hV)
        rw [hlp] at h1
        have h2 := GT.out (p * 9 + 4) (by omega) V (HN.out.trans hV)
        rw [hpd] at h2
        exact ⟨h1.1, h1.2.1, h1.2.2.1, h1.2.2.2, h2⟩))
      have KG := Lib.hid (fun V (hV : New wr V) => (show V.cell? ⟨b, off + k * 4, none⟩ = some (.int .i64 c0) ∧ V.cell? ⟨b, off + k * 4 + 1, none⟩ = some (.int .i64 c1) ∧ V.cell? ⟨b, off + k * 4 + 2, none⟩ = some (.int .i64 c2) ∧ V.cell? ⟨b, off + k * 4 + 3, none⟩ = some (.int .i64 c3) by
        have h1 := f4.out k hlt V (HN.out.trans hV)
        rw [hlk] at h1
        exact h1))
      have IN := Lib.hid (fun V => (show Calls Tryz.prog 32 #[.agg #[.int .i64 a0, .int .i64 a1, .int .i64 a2, .int .i64 a3], .int .i64 pd] V fun e V' => e = .returned (.agg #[.int .i64 r0, .int .i64 r1, .int .i64 r2, .int .i64 r3]) ∧ New V V' by
        have h := sinset_any a0 a1 a2 a3 pd V va.out pb.1 pb.2
        rw [N0.out, N1x.out, N2x.out, N3x.out] at h
        exact h))
      have SL := Lib.hid (spTo_len (zs := zs) (n := n1) (k := k) (W := W) (H := H))
      clear hp hlp hpd hlk hva hvr hvc hn0 hn1 hn2 hn3 hsp SI N0 N1x N2x N3x va
      have NC := Lib.hid (New.refl wr).drew
      have KK := KF.out _ NC.out
      have NZ := Lib.hid ((New.refl wr).alloc (.cells #[.int .i64 0, .int .i64 0, .int .i64 0, .int .i64 0] 31)).drew
      have KZ := KF.out _ NZ.out
      have RZ := Lib.hid ((Row.oneRect wr 0 0 0 0 31).new (New.refl _).drew)
      go_wp2
      go_region_held3 (fun w' => w'.cell? ⟨b, off + p * 4, none⟩ = some (.int .i64 a0) ∧ w'.cell? ⟨b, off + p * 4 + 1, none⟩ = some (.int .i64 a1) ∧ w'.cell? ⟨b, off + p * 4 + 2, none⟩ = some (.int .i64 a2) ∧ w'.cell? ⟨b, off + p * 4 + 3, none⟩ = some (.int .i64 a3) ∧ w'.cell? ⟨b', off' + p * 9 + 4, none⟩ = some (.int .i64 pd))
        (first | exact KK | exact KZ | assumption | exact KF.out _ (by (repeat (first | exact New.refl _ | assumption | refine New.alloc ?_ _ | refine New.drew ?_ | refine New.drewN ?_ _ | refine New.setCell ?_ (by first | omega | (simp; omega) | (simp; done)) _ | refine New.trans ?_ (by assumption)))))
        (first
          | (go_at_call 32; with_reducible refine (IN.out wr.drew).mono ?_; rintro e wk ⟨rfl, Nk⟩; (have KK := KF.out wk (NC.out.trans Nk)); (have NK := Lib.hid (NC.out.trans Nk)); clear Nk)
          | (go_at_call 32; with_reducible refine (IN.out (wr.alloc (.cells #[.int .i64 0, .int .i64 0, .int .i64 0, .int .i64 0] 31)).drew).mono ?_; rintro e wk ⟨rfl, Nk⟩; (have KK := KF.out wk (NZ.out.trans Nk)); (have NK := Lib.hid (NZ.out.trans Nk)); (have RK := Lib.hid (RZ.out.new Nk)); (have k0_ := RK.out.c 0 (by simp)); (have k1_ := RK.out.c 1 (by simp)); (have k2_ := RK.out.c 2 (by simp)); (have k3_ := RK.out.c 3 (by simp)); (have z0_ := RK.out.f 0 (by simp)); (have z1_ := RK.out.f 1 (by simp)); (have z2_ := RK.out.f 2 (by simp)); (have z3_ := RK.out.f 3 (by simp)); clear Nk))
      · have RS := Row.oneRect wk r0 r1 r2 r3 31
        have N7 := Lib.hid (show New wr (wk.alloc (.cells #[.int .i64 r0, .int .i64 r1, .int .i64 r2, .int .i64 r3] 31)) from NK.out.alloc _)
        clear KK KZ
        generalize wk.heap.size = g at RS ⊢
        generalize wk.alloc (.cells #[.int .i64 r0, .int .i64 r1, .int .i64 r2, .int .i64 r3] 31) = W7 at N7 RS ⊢
        have HOW := Lib.hid (HO.out.new N7.out)
        have HNW := Lib.hid (HN.out.trans N7.out)
        have gz := RS.lt
        obtain ⟨y0, y1, y2, y3⟩ := allRectB RS
        obtain ⟨x0, x1, x2, x3⟩ := KG.out W7 N7.out
        have zb : b < W7.heap.size := Nat.lt_of_lt_of_le hb HNW.out.le
        clear RS
        by_cases e0 : c0 < r0
        · have TY := YES_.out (by left; exact e0)
          have zw := HNW.out.le
          go_wp2_with (at_builtin; refine wp_appE rfl _ _ rfl w1.heap.size w.heap.size _ _ rfl (HOW.out.new (((New.refl _).alloc _).alloc _)) w1 ((HNW.out.alloc _).alloc _) (Nat.le_refl _) (Nat.le_trans zw (by simp; omega)) (W7.heap.size + 1) (k : Int) rfl (by have h := Ints.one (W7.alloc (.cells #[.int .i64 c0, .int .i64 c1, .int .i64 c2, .int .i64 c3] 31)) (k : Int) 3; rw [show (W7.alloc (.cells #[.int .i64 c0, .int .i64 c1, .int .i64 c2, .int .i64 c3] 31)).heap.size = W7.heap.size + 1 by simp] at h; exact h) (by have := SL.out; omega) ?_; intro v' w' ho hg)
          go_roundw
          case rel => exact ⟨k + 1, by omega, by omega, by go_num, by rw [TY]; exact Lib.hid (.inr ho), Lib.hid hg⟩
          case measure => simp [intOf]; omega
        · skip
          by_cases e1 : c1 < r1
          · have TY := YES_.out (by right; left; exact e1)
            have zw := HNW.out.le
            go_wp2_with (at_builtin; refine wp_appE rfl _ _ rfl w1.heap.size w.heap.size _ _ rfl (HOW.out.new (((New.refl _).alloc _).alloc _)) w1 ((HNW.out.alloc _).alloc _) (Nat.le_refl _) (Nat.le_trans zw (by simp; omega)) (W7.heap.size + 1) (k : Int) rfl (by have h := Ints.one (W7.alloc (.cells #[.int .i64 c0, .int .i64 c1, .int .i64 c2, .int .i64 c3] 31)) (k : Int) 3; rw [show (W7.alloc (.cells #[.int .i64 c0, .int .i64 c1, .int .i64 c2, .int .i64 c3] 31)).heap.size = W7.heap.size + 1 by simp] at h; exact h) (by have := SL.out; omega) ?_; intro v' w' ho hg)
            go_roundw
            case rel => exact ⟨k + 1, by omega, by omega, by go_num, by rw [TY]; exact Lib.hid (.inr ho), Lib.hid hg⟩
            case measure => simp [intOf]; omega
          · skip
            by_cases e2 : r0 + r2 < c0 + c2
            · have TY := YES_.out (by right; right; left; exact e2)
              have zw := HNW.out.le
              go_wp2_with (at_builtin; refine wp_appE rfl _ _ rfl w1.heap.size w.heap.size _ _ rfl (HOW.out.new (((New.refl _).alloc _).alloc _)) w1 ((HNW.out.alloc _).alloc _) (Nat.le_refl _) (Nat.le_trans zw (by simp; omega)) (W7.heap.size + 1) (k : Int) rfl (by have h := Ints.one (W7.alloc (.cells #[.int .i64 c0, .int .i64 c1, .int .i64 c2, .int .i64 c3] 31)) (k : Int) 3; rw [show (W7.alloc (.cells #[.int .i64 c0, .int .i64 c1, .int .i64 c2, .int .i64 c3] 31)).heap.size = W7.heap.size + 1 by simp] at h; exact h) (by have := SL.out; omega) ?_; intro v' w' ho hg)
              go_roundw
              case rel => exact ⟨k + 1, by omega, by omega, by go_num, by rw [TY]; exact Lib.hid (.inr ho), Lib.hid hg⟩
              case measure => simp [intOf]; omega
            · skip
              by_cases e3 : r1 + r3 < c1 + c3
              · have TY := YES_.out (by right; right; right; skip; exact e3)
                have zw := HNW.out.le
                go_wp2_with (at_builtin; refine wp_appE rfl _ _ rfl w1.heap.size w.heap.size _ _ rfl (HOW.out.new (((New.refl _).alloc _).alloc _)) w1 ((HNW.out.alloc _).alloc _) (Nat.le_refl _) (Nat.le_trans zw (by simp; omega)) (W7.heap.size + 1) (k : Int) rfl (by have h := Ints.one (W7.alloc (.cells #[.int .i64 c0, .int .i64 c1, .int .i64 c2, .int .i64 c3] 31)) (k : Int) 3; rw [show (W7.alloc (.cells #[.int .i64 c0, .int .i64 c1, .int .i64 c2, .int .i64 c3] 31)).heap.size = W7.heap.size + 1 by simp] at h; exact h) (by have := SL.out; omega) ?_; intro v' w' ho hg)
                go_roundw
                case rel => exact ⟨k + 1, by omega, by omega, by go_num, by rw [TY]; exact Lib.hid (.inr ho), Lib.hid hg⟩
                case measure => simp [intOf]; omega
              · have TN := NO_.out (by omega)
                go_wp2
                go_roundw
                case rel => exact ⟨k + 1, by omega, by omega, by go_num, Lib.hid (by rw [TN]; exact HOW.out.new (by (repeat (first | exact New.refl _ | assumption | refine New.alloc ?_ _ | refine New.drew ?_ | refine New.drewN ?_ _ | refine New.setCell ?_ (by first | omega | (simp; omega) | (simp; done)) _ | refine New.trans ?_ (by assumption))))), Lib.hid (HNW.out.trans (by (repeat (first | exact New.refl _ | assumption | refine New.alloc ?_ _ | refine New.drew ?_ | refine New.drewN ?_ _ | refine New.setCell ?_ (by first | omega | (simp; omega) | (simp; done)) _ | refine New.trans ?_ (by assumption)))))⟩
                case measure => simp [intOf]; omega
      · have RS : Row ((((wk.setCell ⟨wr.heap.size, 0, none⟩ (.int .i64 r0)).setCell ⟨wr.heap.size, 1, none⟩ (.int .i64 r1)).setCell ⟨wr.heap.size, 2, none⟩ (.int .i64 r2)).setCell ⟨wr.heap.size, 3, none⟩ (.int .i64 r3)) wr.heap.size [r0, r1, r2, r3] := (((RK.out.set_ (k := 0) (by simp) r0).set_ (k := 1) (by simp) r1).set_ (k := 2) (by simp) r2).set_ (k := 3) (by simp) r3
        have N7 := Lib.hid (show New wr ((((wk.setCell ⟨wr.heap.size, 0, none⟩ (.int .i64 r0)).setCell ⟨wr.heap.size, 1, none⟩ (.int .i64 r1)).setCell ⟨wr.heap.size, 2, none⟩ (.int .i64 r2)).setCell ⟨wr.heap.size, 3, none⟩ (.int .i64 r3)) from (((NK.out.setCell (Nat.le_refl _) _).setCell (Nat.le_refl _) _).setCell (Nat.le_refl _) _).setCell (Nat.le_refl _) _)
        clear KK KZ k0_ k1_ k2_ k3_ z0_ z1_ z2_ z3_ RK
        generalize ((((wk.setCell ⟨wr.heap.size, 0, none⟩ (.int .i64 r0)).setCell ⟨wr.heap.size, 1, none⟩ (.int .i64 r1)).setCell ⟨wr.heap.size, 2, none⟩ (.int .i64 r2)).setCell ⟨wr.heap.size, 3, none⟩ (.int .i64 r3)) = W7 at N7 RS ⊢
        generalize wr.heap.size = g at RS ⊢
        have HOW := Lib.hid (HO.out.new N7.out)
        have HNW := Lib.hid (HN.out.trans N7.out)
        have gz := RS.lt
        obtain ⟨y0, y1, y2, y3⟩ := allRectB RS
        obtain ⟨x0, x1, x2, x3⟩ := KG.out W7 N7.out
        have zb : b < W7.heap.size := Nat.lt_of_lt_of_le hb HNW.out.le
        clear RS
        by_cases e0 : c0 < r0
        · have TY := YES_.out (by left; exact e0)
          have zw := HNW.out.le
          go_wp2_with (at_builtin; refine wp_appE rfl _ _ rfl w1.heap.size w.heap.size _ _ rfl (HOW.out.new (((New.refl _).alloc _).alloc _)) w1 ((HNW.out.alloc _).alloc _) (Nat.le_refl _) (Nat.le_trans zw (by simp; omega)) (W7.heap.size + 1) (k : Int) rfl (by have h := Ints.one (W7.alloc (.cells #[.int .i64 c0, .int .i64 c1, .int .i64 c2, .int .i64 c3] 31)) (k : Int) 3; rw [show (W7.alloc (.cells #[.int .i64 c0, .int .i64 c1, .int .i64 c2, .int .i64 c3] 31)).heap.size = W7.heap.size + 1 by simp] at h; exact h) (by have := SL.out; omega) ?_; intro v' w' ho hg)
          go_roundw
          case rel => exact ⟨k + 1, by omega, by omega, by go_num, by rw [TY]; exact Lib.hid (.inr ho), Lib.hid hg⟩
          case measure => simp [intOf]; omega
        · skip
          by_cases e1 : c1 < r1
          · have TY := YES_.out (by right; left; exact e1)
            have zw := HNW.out.le
            go_wp2_with (at_builtin; refine wp_appE rfl _ _ rfl w1.heap.size w.heap.size _ _ rfl (HOW.out.new (((New.refl _).alloc _).alloc _)) w1 ((HNW.out.alloc _).alloc _) (Nat.le_refl _) (Nat.le_trans zw (by simp; omega)) (W7.heap.size + 1) (k : Int) rfl (by have h := Ints.one (W7.alloc (.cells #[.int .i64 c0, .int .i64 c1, .int .i64 c2, .int .i64 c3] 31)) (k : Int) 3; rw [show (W7.alloc (.cells #[.int .i64 c0, .int .i64 c1, .int .i64 c2, .int .i64 c3] 31)).heap.size = W7.heap.size + 1 by simp] at h; exact h) (by have := SL.out; omega) ?_; intro v' w' ho hg)
            go_roundw
            case rel => exact ⟨k + 1, by omega, by omega, by go_num, by rw [TY]; exact Lib.hid (.inr ho), Lib.hid hg⟩
            case measure => simp [intOf]; omega
          · skip
            by_cases e2 : r0 + r2 < c0 + c2
            · have TY := YES_.out (by right; right; left; exact e2)
              have zw := HNW.out.le
              go_wp2_with (at_builtin; refine wp_appE rfl _ _ rfl w1.heap.size w.heap.size _ _ rfl (HOW.out.new (((New.refl _).alloc _).alloc _)) w1 ((HNW.out.alloc _).alloc _) (Nat.le_refl _) (Nat.le_trans zw (by simp; omega)) (W7.heap.size + 1) (k : Int) rfl (by have h := Ints.one (W7.alloc (.cells #[.int .i64 c0, .int .i64 c1, .int .i64 c2, .int .i64 c3] 31)) (k : Int) 3; rw [show (W7.alloc (.cells #[.int .i64 c0, .int .i64 c1, .int .i64 c2, .int .i64 c3] 31)).heap.size = W7.heap.size + 1 by simp] at h; exact h) (by have := SL.out; omega) ?_; intro v' w' ho hg)
              go_roundw
              case rel => exact ⟨k + 1, by omega, by omega, by go_num, by rw [TY]; exact Lib.hid (.inr ho), Lib.hid hg⟩
              case measure => simp [intOf]; omega
            · skip
              by_cases e3 : r1 + r3 < c1 + c3
              · have TY := YES_.out (by right; right; right; skip; exact e3)
                have zw := HNW.out.le
                go_wp2_with (at_builtin; refine wp_appE rfl _ _ rfl w1.heap.size w.heap.size _ _ rfl (HOW.out.new (((New.refl _).alloc _).alloc _)) w1 ((HNW.out.alloc _).alloc _) (Nat.le_refl _) (Nat.le_trans zw (by simp; omega)) (W7.heap.size + 1) (k : Int) rfl (by have h := Ints.one (W7.alloc (.cells #[.int .i64 c0, .int .i64 c1, .int .i64 c2, .int .i64 c3] 31)) (k : Int) 3; rw [show (W7.alloc (.cells #[.int .i64 c0, .int .i64 c1, .int .i64 c2, .int .i64 c3] 31)).heap.size = W7.heap.size + 1 by simp] at h; exact h) (by have := SL.out; omega) ?_; intro v' w' ho hg)
                go_roundw
                case rel => exact ⟨k + 1, by omega, by omega, by go_num, by rw [TY]; exact Lib.hid (.inr ho), Lib.hid hg⟩
                case measure => simp [intOf]; omega
              · have TN := NO_.out (by omega)
                go_wp2
                go_roundw
                case rel => exact ⟨k + 1, by omega, by omega, by go_num, Lib.hid (by rw [TN]; exact HOW.out.new (by (repeat (first | exact New.refl _ | assumption | refine New.alloc ?_ _ | refine New.drew ?_ | refine New.drewN ?_ _ | refine New.setCell ?_ (by first | omega | (simp; omega) | (simp; done)) _ | refine New.trans ?_ (by assumption))))), Lib.hid (HNW.out.trans (by (repeat (first | exact New.refl _ | assumption | refine New.alloc ?_ _ | refine New.drew ?_ | refine New.drewN ?_ _ | refine New.setCell ?_ (by first | omega | (simp; omega) | (simp; done)) _ | refine New.trans ?_ (by assumption)))))⟩
                case measure => simp [intOf]; omega
    · obtain rfl : n1 = k := by omega
      have HF := Lib.hid (HO.out.answ (w := w) NW.out.le (NW.out.trans HN.out))
      obtain ⟨A2, n2, c2, rfl⟩ := HO.out.slice
      go_wp2
      go_ret
      rw [hE.out]
      exact HF.out
end Go.Proofs.YtigniaebokknmaaGreat
