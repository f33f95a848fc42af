/- The law FnPaintAreaTwo, walked: for every code. Condition: the code can be read. -/
import Derived.Test.YtckdokijmlpngaaDrawRc
import Derived.Test.YtckdokijmlpngaaPaiI
import Derived.Test.YtckdokijmlpngaaPaiS
import Derived.Test.YtckdokijmlpngaaPaiP
import Derived.Test.YtckdokijmlpngaaJoiI
import Derived.Test.YtckdokijmlpngaaPaiT
import Derived.Test.YtckdokijmlpngaaRectG
import Derived.Deep.RegionHeld3
namespace Go.Proofs.Ytckdokijmlpngaa
open Go.RowKit

set_option maxRecDepth 100000 in
set_option maxHeartbeats 4000000 in
theorem lawPaintAreaTwo (A : Option Addr) (n c : Nat) (hn : n ≤ maxLen) (hnc : n ≤ c) (w : World) (hb : Bytes w A n) :
    Calls Try.prog 11 #[.slice A n c] w fun e w' => e = .returned (.bool true) ∧ New w w' := by
  have HB := Lib.hid hb; have HM := Lib.hid hn
  clear hb
  unfold maxLen at hn
  by_cases hbig : 1048576 < n
  · go_enter Try.func11, Try.ntmps11
    go_wp2
    go_ret
    exact ⟨rfl, by (repeat (first | exact New.refl _ | assumption | refine New.alloc ?_ _ | refine New.drew ?_ | refine New.drewN ?_ _ | refine New.setCell ?_ (by first | omega | (simp; omega) | (simp; done)) _ | refine New.trans ?_ (by assumption)))⟩
  have hm : (n : Int) ≤ 1048576 := by omega
  have hm0 : (0 : Int) ≤ (n : Int) := by omega
  go_enter Try.func11, Try.ntmps11
  go_wp2_with fail
  refine (DrawPaintArea_any A n c HM.out hnc _ HB.out).mono ?_
  rintro e w1 ⟨B1, m1, d1, xs, rfl, I1, dc1, l1, N1a⟩
  have s1 := N1a.le
  have N1 := Lib.hid ((New.refl w).trans N1a); clear N1a
  replace I1 := Lib.hid I1
  have y0 : (0 : Int) ≤ (m1 : Int) := by omega
  have y1 : (m1 : Int) ≤ 7 := by omega
  obtain ⟨z, HZ⟩ : ∃ z, Hid (paA m1 xs = z) := ⟨_, Lib.hid rfl⟩
  go_wp2_with fail
  refine (PaintArea_any B1 m1 d1 xs (by omega) dc1 _ I1.out).mono ?_
  rw [HZ.out]
  rintro e w2 ⟨rfl, N2a⟩
  have s2 := N2a.le
  have I1 := Lib.hid (I1.out.new N2a)
  have N2 := Lib.hid (N1.out.trans N2a); clear N2a
  go_wp2_with fail
  refine (SPaintArea_any B1 m1 d1 xs (by omega) _ I1.out).mono ?_
  rw [HZ.out]
  rintro e w3 ⟨rfl, N3a⟩
  have s3 := N3a.le
  have I1 := Lib.hid (I1.out.new N3a)
  have N3 := Lib.hid (N2.out.trans N3a); clear N3a
  cases hpa : paB m1 xs
  · have hz : z = -1 := HZ.out.symm.trans (paA_no hpa)
    subst hz
    go_wp2_with fail
    refine (SPaintArea_any B1 m1 d1 xs (by omega) _ I1.out).mono ?_
    rw [HZ.out]
    rintro e w4 ⟨rfl, N4a⟩
    have s4 := N4a.le
    have I1 := Lib.hid (I1.out.new N4a)
    have N4 := Lib.hid (N3.out.trans N4a); clear N4a
    go_wp2
    go_ret
    exact ⟨rfl, N4.out⟩
  obtain ⟨n6, ok1, ok2⟩ := paB_iff.1 hpa
  have hz : arTo xs m1 = z := (paA_yes hpa).symm.trans HZ.out
  have zb := arTo_bd ok1 ok2
  rw [hz] at zb
  have HA := Lib.hid hz; have OK1 := Lib.hid ok1; have OK2 := Lib.hid ok2
  have znn : ¬ z < 0 := by omega
  have zd : decide (z < 0) = false := decide_eq_false znn
  clear hpa hz ok1 ok2
  by_cases h2 : m1 < 2
  · have h2i : (m1 : Int) < 2 := by omega
    go_wp2_with fail
    refine (SPaintArea_any B1 m1 d1 xs (by omega) _ I1.out).mono ?_
    rw [HZ.out]
    rintro e w5 ⟨rfl, N5⟩
    go_wp2
    go_ret
    exact ⟨rfl, N3.out.trans N5⟩
  have h2 : 2 ≤ m1 := by omega
  have h2i : (2 : Int) ≤ (m1 : Int) := by omega
  have h2n : ¬ (m1 : Int) < 2 := by omega
  have h2c : (2 : Int) ≤ (d1 : Int) := by omega
  have h0i : (0 : Int) < (m1 : Int) := by omega
  have h1i : (1 : Int) < (m1 : Int) := by omega
  have h0n : 0 < m1 := by omega
  have h1n : 1 < m1 := by omega
  have PT := Lib.hid (paA_take (zs := xs) (fun j hj => OK1.out j (by omega)) (fun j hj => OK2.out j (by omega)))
  have b0_ := paArea_bd (OK1.out 0 (by omega)) (OK2.out 0 (by omega))
  have b1_ := paArea_bd (OK1.out 1 (by omega)) (OK2.out 1 (by omega))
  simp only [Nat.reduceMul, Nat.reduceAdd] at b0_ b1_
  have cb := pcommon_bd (zs := xs) (fun j hj => OK1.out j (by omega)) (fun j hj => OK2.out j (by omega))
  have hl := I1.out.len
  obtain ⟨b, off, rfl, hb, hc⟩ := I1.out.at_ (by omega)
  have KX := Lib.hid (fun V (hV : New w3 V) => (⟨(hV.cells b _ hb).trans (hc 0 (by omega)), (hV.cells b _ hb).trans (hc 1 (by omega)), (hV.cells b _ hb).trans (hc 2 (by omega)), (hV.cells b _ hb).trans (hc 3 (by omega)), (hV.cells b _ hb).trans (hc 4 (by omega)), (hV.cells b _ hb).trans (hc 5 (by omega)), (hV.cells b _ hb).trans (hc 6 (by omega)), (hV.cells b _ hb).trans (hc 7 (by omega))⟩ : V.cell? ⟨b, off, none⟩ = some (.int .i64 (xs.getD 0 0)) ∧ V.cell? ⟨b, off + 1, none⟩ = some (.int .i64 (xs.getD 1 0)) ∧ V.cell? ⟨b, off + 2, none⟩ = some (.int .i64 (xs.getD 2 0)) ∧ V.cell? ⟨b, off + 3, none⟩ = some (.int .i64 (xs.getD 3 0)) ∧ V.cell? ⟨b, off + 4, none⟩ = some (.int .i64 (xs.getD 4 0)) ∧ V.cell? ⟨b, off + 5, none⟩ = some (.int .i64 (xs.getD 5 0)) ∧ V.cell? ⟨b, off + 6, none⟩ = some (.int .i64 (xs.getD 6 0)) ∧ V.cell? ⟨b, off + 7, none⟩ = some (.int .i64 (xs.getD 7 0))))
  rw [show rg xs 0 = (xs.getD 0 0, xs.getD 1 0, xs.getD 2 0, xs.getD 3 0) from rfl, show rg xs 1 = (xs.getD 4 0, xs.getD 5 0, xs.getD 6 0, xs.getD 7 0) from rfl] at PT cb
  have S8 : Hid (∀ V, New w3 V → Sts 4 V (some ⟨b, off, none⟩) 2 (xs.take 8)) := Lib.hid (fun V hV => ⟨by rw [List.length_take, hl]; omega, fun _ => ⟨b, off, rfl, Nat.lt_of_lt_of_le hb hV.le, fun i hi => by
    rw [List.getD_eq_getElem?_getD, List.getElem?_take_of_lt (by omega), ← List.getD_eq_getElem?_getD]
    exact (hV.cells b _ hb).trans (hc i (by omega))⟩⟩)
  have NN := Lib.hid N3.out
  have MR := Lib.hid (fun V => MeetRects_any (xs.getD 0 0) (xs.getD 1 0) (xs.getD 2 0) (xs.getD 3 0) (xs.getD 4 0) (xs.getD 5 0) (xs.getD 6 0) (xs.getD 7 0) V)
  clear hc hl
  generalize hx0 : xs.getD 0 0 = x0 at KX PT cb MR
  generalize hx1 : xs.getD 1 0 = x1 at KX PT cb MR
  generalize hx2 : xs.getD 2 0 = x2 at KX PT cb MR b0_
  generalize hx3 : xs.getD 3 0 = x3 at KX PT cb MR b0_
  generalize hz0 : xs.getD 4 0 = z0 at KX PT cb MR
  generalize hz1 : xs.getD 5 0 = z1 at KX PT cb MR
  generalize hz2 : xs.getD 6 0 = z2 at KX PT cb MR b1_
  generalize hz3 : xs.getD 7 0 = z3 at KX PT cb MR b1_
  clear hx0 hx1 hx2 hx3 hz0 hz1 hz2 hz3
  obtain ⟨mt, hmt⟩ : ∃ mt, m4 (x0, x1, x2, x3) (z0, z1, z2, z3) = mt := ⟨_, rfl⟩
  have hmo : mOk x0 x1 x2 x3 z0 z1 z2 z3 = mt := hmt
  rw [hmo] at MR
  rw [hmt] at PT cb
  have MX : Hid (∀ V, Calls Try.prog 38 #[.agg #[.int .i64 x0, .int .i64 x1, .int .i64 x2, .int .i64 x3], .agg #[.int .i64 z0, .int .i64 z1, .int .i64 z2, .int .i64 z3]] V fun e V' => (∃ h0 h1 h2 h3 : Int, e = .returned (.tuple #[.agg #[.int .i64 h0, .int .i64 h1, .int .i64 h2, .int .i64 h3], .bool mt]) ∧ (mt = true → h2 = mW x0 x2 z0 z2 ∧ h3 = mW x1 x3 z1 z3)) ∧ New V V') := Lib.hid (fun V => (MR.out V).mono fun e V' ⟨he, hN⟩ => ⟨⟨_, _, _, _, he, fun h => ⟨by unfold mC; exact ifB_yes (hmo.trans h) _, by unfold mD; exact ifB_yes (hmo.trans h) _⟩⟩, hN⟩)
  clear hmt hmo MR
  have NC := Lib.hid (New.refl w3).drew
  have KK := KX.out _ NC.out
  have NZ := Lib.hid ((New.refl w3).alloc (.cells #[.int .i64 0, .int .i64 0, .int .i64 0, .int .i64 0] 34)).drew
  have KZ := KX.out _ NZ.out
  have RZ := Lib.hid ((Row.oneRect w3 0 0 0 0 34).new (New.refl _).drew)
  generalize hP0 : x2 * x3 = P0 at PT b0_
  generalize hP1 : z2 * z3 = P1 at PT b1_
  generalize hPc : mW x0 x2 z0 z2 * mW x1 x3 z1 z3 = Pc at PT cb
  go_wp2
  go_region_held3 (fun w' => w'.cell? ⟨b, off, none⟩ = some (.int .i64 x0) ∧ w'.cell? ⟨b, off + 1, none⟩ = some (.int .i64 x1) ∧ w'.cell? ⟨b, off + 2, none⟩ = some (.int .i64 x2) ∧ w'.cell? ⟨b, off + 3, none⟩ = some (.int .i64 x3) ∧ w'.cell? ⟨b, off + 4, none⟩ = some (.int .i64 z0) ∧ w'.cell? ⟨b, off + 5, none⟩ = some (.int .i64 z1) ∧ w'.cell? ⟨b, off + 6, none⟩ = some (.int .i64 z2) ∧ w'.cell? ⟨b, off + 7, none⟩ = some (.int .i64 z3))
    (first | exact KK | exact KZ | assumption | exact KX.out _ (by (repeat (first | exact New.refl _ | assumption | refine New.alloc ?_ _ | refine New.drew ?_ | refine New.drewN ?_ _ | refine New.setCell ?_ (by first | omega | (simp; omega) | (simp; done)) _ | refine New.trans ?_ (by assumption)))))
    (first
      | (go_at_call 38; with_reducible refine (MX.out w3.drew).mono ?_; rintro e wk ⟨⟨h0, h1, h2, h3, rfl, hh⟩, Nk⟩; (have KK := KX.out wk (NC.out.trans Nk)); (have NK := Lib.hid (NC.out.trans Nk)); (have HH := Lib.hid hh); clear Nk hh)
      | (go_at_call 38; with_reducible refine (MX.out (w3.alloc (.cells #[.int .i64 0, .int .i64 0, .int .i64 0, .int .i64 0] 34)).drew).mono ?_; rintro e wk ⟨⟨h0, h1, h2, h3, rfl, hh⟩, Nk⟩; (have KK := KX.out wk (NZ.out.trans Nk)); (have NK := Lib.hid (NZ.out.trans Nk)); (have HH := Lib.hid hh); (have RK := Lib.hid (RZ.out.new Nk)); (have k0_ := RK.out.c 0 (by simp)); (have k1_ := RK.out.c 1 (by simp)); (have k2_ := RK.out.c 2 (by simp)); (have k3_ := RK.out.c 3 (by simp)); (have z0_ := RK.out.f 0 (by simp)); (have z1_ := RK.out.f 1 (by simp)); (have z2_ := RK.out.f 2 (by simp)); (have z3_ := RK.out.f 3 (by simp)); clear Nk hh))
  · have RH := Lib.hid (Row.oneRect wk h0 h1 h2 h3 34)
    have N7 := Lib.hid (show New w3 (wk.alloc (.cells #[.int .i64 h0, .int .i64 h1, .int .i64 h2, .int .i64 h3] 34)) from NK.out.alloc _)
    clear KK KZ
    generalize wk.alloc (.cells #[.int .i64 h0, .int .i64 h1, .int .i64 h2, .int .i64 h3] 34) = W7 at N7 RH ⊢
    obtain ⟨u0, u1, u2, u3⟩ := Row.allRect RH.out
    have PA := Lib.hid (fun V (hV : New w3 V) => PaintArea_any (some ⟨b, off, none⟩) 2 d1 (xs.take 8) (by omega) (by omega) V (S8.out V hV))
    rw [PT.out] at PA
    clear NC NZ RZ NK
    cases mt
    · simp only [Bool.false_eq_true, if_false] at PA
      clear cb HH
      go_wp2
      have ND := Lib.hid N7.out.drew
      have KK := KX.out _ ND.out
      clear u0 u1 u2 u3
      go_region_held3 (fun w' => w'.cell? ⟨b, off, none⟩ = some (.int .i64 x0) ∧ w'.cell? ⟨b, off + 1, none⟩ = some (.int .i64 x1) ∧ w'.cell? ⟨b, off + 2, none⟩ = some (.int .i64 x2) ∧ w'.cell? ⟨b, off + 3, none⟩ = some (.int .i64 x3) ∧ w'.cell? ⟨b, off + 4, none⟩ = some (.int .i64 z0) ∧ w'.cell? ⟨b, off + 5, none⟩ = some (.int .i64 z1) ∧ w'.cell? ⟨b, off + 6, none⟩ = some (.int .i64 z2) ∧ w'.cell? ⟨b, off + 7, none⟩ = some (.int .i64 z3))
        (first | exact KK | assumption)
        ((go_at_call 28; refine (PA.out _ ND.out).mono ?_; rintro e w8 ⟨rfl, Nk⟩; (have KK := KX.out _ (ND.out.trans Nk)); (replace ND := Lib.hid (ND.out.trans Nk)); clear Nk))
      go_wp2
      go_ret
      exact ⟨ret_bool (by rw [IntWalk.i64_in P0 (by omega), IntWalk.i64_in P1 (by omega), IntWalk.i64_in (P0 + P1) (by omega), IntWalk.i64_in (P0 + P1) (by omega)]; exact beq_self_eq_true _), NN.out.trans ND.out⟩
    · have hc_ := cb rfl
      obtain ⟨e2_, e3_⟩ := HH.out rfl
      rw [← e2_, ← e3_] at hPc
      simp only [if_true] at PA
      clear cb HH e2_ e3_
      go_wp2
      have ND := Lib.hid N7.out.drew
      have KK := KX.out _ ND.out
      clear u0 u1 u2 u3
      go_region_held3 (fun w' => w'.cell? ⟨b, off, none⟩ = some (.int .i64 x0) ∧ w'.cell? ⟨b, off + 1, none⟩ = some (.int .i64 x1) ∧ w'.cell? ⟨b, off + 2, none⟩ = some (.int .i64 x2) ∧ w'.cell? ⟨b, off + 3, none⟩ = some (.int .i64 x3) ∧ w'.cell? ⟨b, off + 4, none⟩ = some (.int .i64 z0) ∧ w'.cell? ⟨b, off + 5, none⟩ = some (.int .i64 z1) ∧ w'.cell? ⟨b, off + 6, none⟩ = some (.int .i64 z2) ∧ w'.cell? ⟨b, off + 7, none⟩ = some (.int .i64 z3))
        (first | exact KK | assumption)
        ((go_at_call 28; refine (PA.out _ ND.out).mono ?_; rintro e w8 ⟨rfl, Nk⟩; (have KK := KX.out _ (ND.out.trans Nk)); (replace ND := Lib.hid (ND.out.trans Nk)); clear Nk))
      go_wp2
      go_ret
      exact ⟨ret_bool (by rw [IntWalk.i64_in P0 (by omega), IntWalk.i64_in P1 (by omega), IntWalk.i64_in (P0 + P1) (by omega), IntWalk.i64_in (P0 + P1 - Pc) (by omega)]; exact beq_self_eq_true _), NN.out.trans ND.out⟩
  · have RH := Lib.hid (Row.four4 RK.out h0 h1 h2 h3)
    have N7 := Lib.hid (show New w3 ((((wk.setCell ⟨w3.heap.size, 0, none⟩ (.int .i64 h0)).setCell ⟨w3.heap.size, 1, none⟩ (.int .i64 h1)).setCell ⟨w3.heap.size, 2, none⟩ (.int .i64 h2)).setCell ⟨w3.heap.size, 3, none⟩ (.int .i64 h3)) from (((NK.out.setCell (Nat.le_refl _) _).setCell (Nat.le_refl _) _).setCell (Nat.le_refl _) _).setCell (Nat.le_refl _) _)
    clear KK KZ k0_ k1_ k2_ k3_ z0_ z1_ z2_ z3_ RK
    generalize ((((wk.setCell ⟨w3.heap.size, 0, none⟩ (.int .i64 h0)).setCell ⟨w3.heap.size, 1, none⟩ (.int .i64 h1)).setCell ⟨w3.heap.size, 2, none⟩ (.int .i64 h2)).setCell ⟨w3.heap.size, 3, none⟩ (.int .i64 h3)) = W7 at N7 RH ⊢
    obtain ⟨u0, u1, u2, u3⟩ := Row.allRect RH.out
    have PA := Lib.hid (fun V (hV : New w3 V) => PaintArea_any (some ⟨b, off, none⟩) 2 d1 (xs.take 8) (by omega) (by omega) V (S8.out V hV))
    rw [PT.out] at PA
    clear NC NZ RZ NK
    cases mt
    · simp only [Bool.false_eq_true, if_false] at PA
      clear cb HH
      go_wp2
      have ND := Lib.hid N7.out.drew
      have KK := KX.out _ ND.out
      clear u0 u1 u2 u3
      go_region_held3 (fun w' => w'.cell? ⟨b, off, none⟩ = some (.int .i64 x0) ∧ w'.cell? ⟨b, off + 1, none⟩ = some (.int .i64 x1) ∧ w'.cell? ⟨b, off + 2, none⟩ = some (.int .i64 x2) ∧ w'.cell? ⟨b, off + 3, none⟩ = some (.int .i64 x3) ∧ w'.cell? ⟨b, off + 4, none⟩ = some (.int .i64 z0) ∧ w'.cell? ⟨b, off + 5, none⟩ = some (.int .i64 z1) ∧ w'.cell? ⟨b, off + 6, none⟩ = some (.int .i64 z2) ∧ w'.cell? ⟨b, off + 7, none⟩ = some (.int .i64 z3))
        (first | exact KK | assumption)
        ((go_at_call 28; refine (PA.out _ ND.out).mono ?_; rintro e w8 ⟨rfl, Nk⟩; (have KK := KX.out _ (ND.out.trans Nk)); (replace ND := Lib.hid (ND.out.trans Nk)); clear Nk))
      go_wp2
      go_ret
      exact ⟨ret_bool (by rw [IntWalk.i64_in P0 (by omega), IntWalk.i64_in P1 (by omega), IntWalk.i64_in (P0 + P1) (by omega), IntWalk.i64_in (P0 + P1) (by omega)]; exact beq_self_eq_true _), NN.out.trans ND.out⟩
    · have hc_ := cb rfl
      obtain ⟨e2_, e3_⟩ := HH.out rfl
      rw [← e2_, ← e3_] at hPc
      simp only [if_true] at PA
      clear cb HH e2_ e3_
      go_wp2
      have ND := Lib.hid N7.out.drew
      have KK := KX.out _ ND.out
      clear u0 u1 u2 u3
      go_region_held3 (fun w' => w'.cell? ⟨b, off, none⟩ = some (.int .i64 x0) ∧ w'.cell? ⟨b, off + 1, none⟩ = some (.int .i64 x1) ∧ w'.cell? ⟨b, off + 2, none⟩ = some (.int .i64 x2) ∧ w'.cell? ⟨b, off + 3, none⟩ = some (.int .i64 x3) ∧ w'.cell? ⟨b, off + 4, none⟩ = some (.int .i64 z0) ∧ w'.cell? ⟨b, off + 5, none⟩ = some (.int .i64 z1) ∧ w'.cell? ⟨b, off + 6, none⟩ = some (.int .i64 z2) ∧ w'.cell? ⟨b, off + 7, none⟩ = some (.int .i64 z3))
        (first | exact KK | assumption)
        ((go_at_call 28; refine (PA.out _ ND.out).mono ?_; rintro e w8 ⟨rfl, Nk⟩; (have KK := KX.out _ (ND.out.trans Nk)); (replace ND := Lib.hid (ND.out.trans Nk)); clear Nk))
      go_wp2
      go_ret
      exact ⟨ret_bool (by rw [IntWalk.i64_in P0 (by omega), IntWalk.i64_in P1 (by omega), IntWalk.i64_in (P0 + P1) (by omega), IntWalk.i64_in (P0 + P1 - Pc) (by omega)]; exact beq_self_eq_true _), NN.out.trans ND.out⟩
end Go.Proofs.Ytckdokijmlpngaa
