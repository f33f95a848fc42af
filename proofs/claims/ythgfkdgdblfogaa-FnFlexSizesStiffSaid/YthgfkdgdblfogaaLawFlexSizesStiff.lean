/- The law FnFlexSizesStiff, walked: sizes without weights stay. Condition: the code can be read. -/
import Derived.Test.YthgfkdgdblfogaaDrawFS
import Derived.Test.YthgfkdgdblfogaaFlexH
import Derived.Test.YthgfkdgdblfogaaFlexQ
import Derived.Test.YthgfkdgdblfogaaInts2
namespace Go.Proofs.Ythgfkdgdblfogaa
open Go.RowKit

set_option maxRecDepth 100000 in
set_option maxHeartbeats 4000000 in
theorem lawFlexSizesStiff (A : Option Addr) (n c : Nat) (hn : n ≤ maxLen) (hnc : n ≤ c) (w : World) (hb : Bytes w A n) :
    Calls Try.prog 13 #[.slice A n c] w fun e w' => e = .returned (.bool true) ∧ New w w' := by
  have HB := Lib.hid hb; have HM := Lib.hid hn
  clear hb
  unfold maxLen at hn
  by_cases hbig : 1048576 < n
  · go_enter Try.func13, Try.ntmps13
    go_wp2
    go_ret
    exact ⟨rfl, by (repeat (first | exact New.refl _ | assumption | refine New.alloc ?_ _ | refine New.drew ?_ | refine New.drewN ?_ _ | refine New.setCell ?_ (by first | omega | (simp; omega) | (simp; done)) _ | refine New.trans ?_ (by assumption)))⟩
  have hm : (n : Int) ≤ 1048576 := by omega
  have hm0 : (0 : Int) ≤ (n : Int) := by omega
  go_enter Try.func13, Try.ntmps13
  go_wp2_with fail
  refine (DrawFlexSizes_any A n c HM.out hnc _ HB.out).mono ?_
  rintro e w1 ⟨B1, m1, d1, ys, x, rfl, I1, mc, m9, _, xb, N1a⟩
  have s1 := N1a.le
  have N1 := Lib.hid ((New.refl w).trans N1a); clear N1a
  replace I1 := Lib.hid I1
  have LY := Lib.hid I1.out.len
  have y0 : (0 : Int) ≤ (m1 : Int) := by omega
  have y1 : (m1 : Int) ≤ 9 := by omega
  by_cases hz : flexA m1 ys x = []
  · have HZ := Lib.hid hz
    clear hz
    go_wp2_with fail
    refine (FlexSizes_ans ys x B1 m1 d1 _ I1.out (by omega)).mono ?_
    rintro e w2 ⟨A2, n2, c2, rfl, l2, r2, N2a⟩
    have s2 := N2a.le
    have I1 := Lib.hid (I1.out.new N2a)
    have N2 := Lib.hid (N1.out.trans N2a); clear N2a
    rw [HZ.out] at l2 r2
    obtain rfl : 0 = n2 := by simpa using l2
    have R2 := Lib.hid r2; clear l2 r2
    go_wp2_with fail
    refine (SFlexSizes_ans ys x B1 m1 d1 _ I1.out (by omega)).mono ?_
    rintro e w3 ⟨A3, n3, c3, rfl, l3, r3, N3a⟩
    have s3 := N3a.le
    have I1 := Lib.hid (I1.out.new N3a)
    have R2 := Lib.hid (R2.out.new N3a)
    have N3 := Lib.hid (N2.out.trans N3a); clear N3a
    rw [HZ.out] at l3 r3
    obtain rfl : 0 = n3 := by simpa using l3
    have R3 := Lib.hid r3; clear l3 r3
    go_wp2_with fail
    refine (equalInts_any _ _ 0 0 _ _ [] [] (by omega) (by omega) _ (R2.out.ints rfl) (R3.out.ints rfl)).mono ?_
    (rw [decide_eq_true rfl]; rintro e w4 ⟨rfl, N4a⟩)
    have s4 := N4a.le
    have I1 := Lib.hid (I1.out.new N4a)
    have R2 := Lib.hid (R2.out.new N4a)
    have R3 := Lib.hid (R3.out.new N4a)
    have N4 := Lib.hid (N3.out.trans N4a); clear N4a
    go_wp2_with fail
    refine (SFlexSizes_ans ys x B1 m1 d1 _ I1.out (by omega)).mono ?_
    rintro e w5 ⟨A5, n5, c5, rfl, l5, r5, N5a⟩
    have s5 := N5a.le
    have I1 := Lib.hid (I1.out.new N5a)
    have R2 := Lib.hid (R2.out.new N5a)
    have R3 := Lib.hid (R3.out.new N5a)
    have N5 := Lib.hid (N4.out.trans N5a); clear N5a
    rw [HZ.out] at l5 r5
    obtain rfl : 0 = n5 := by simpa using l5
    have R5 := Lib.hid r5; clear l5 r5
    go_wp2_with fail
    refine (equalInts_any _ _ 0 0 _ _ [] [] (by omega) (by omega) _ (R2.out.ints rfl) (R5.out.ints rfl)).mono ?_
    (rw [decide_eq_true rfl]; rintro e w6 ⟨rfl, N6a⟩)
    have s6 := N6a.le
    have I1 := Lib.hid (I1.out.new N6a)
    have R2 := Lib.hid (R2.out.new N6a)
    have R3 := Lib.hid (R3.out.new N6a)
    have R5 := Lib.hid (R5.out.new N6a)
    have N6 := Lib.hid (N5.out.trans N6a); clear N6a
    go_wp2
    go_ret
    exact ⟨rfl, N6.out⟩
  · have zp : 0 < (flexA m1 ys x).length := List.length_pos_iff.2 hz
    have zc := flexA_len m1 ys x
    obtain ⟨nz, LZ⟩ : ∃ nz, Hid ((flexA m1 ys x).length = nz) := ⟨_, Lib.hid rfl⟩
    have z1 : 1 ≤ nz := by have := LZ.out; omega
    have z8 : nz ≤ 1048576 := by have := LZ.out; omega
    have zi : (1 : Int) ≤ (nz : Int) := by omega
    have zj : (nz : Int) ≤ 1048576 := by omega
    have zb : ((nz : Int) == 0) = false := by simp; omega
    have NE := Lib.hid hz
    clear hz zp zc
    go_wp2_with fail
    refine (FlexSizes_ans ys x B1 m1 d1 _ I1.out (by omega)).mono ?_
    rintro e w2 ⟨A2, n2, c2, rfl, l2, r2, N2a⟩
    have s2 := N2a.le
    have I1 := Lib.hid (I1.out.new N2a)
    have N2 := Lib.hid (N1.out.trans N2a); clear N2a
    obtain rfl : nz = n2 := by have := LZ.out; omega
    have R2 := Lib.hid r2; clear l2 r2
    go_wp2_with fail
    refine (SFlexSizes_ans ys x B1 m1 d1 _ I1.out (by omega)).mono ?_
    rintro e w3 ⟨A3, n3, c3, rfl, l3, r3, N3a⟩
    have s3 := N3a.le
    have I1 := Lib.hid (I1.out.new N3a)
    have R2 := Lib.hid (R2.out.new N3a)
    have N3 := Lib.hid (N2.out.trans N3a); clear N3a
    obtain rfl : nz = n3 := by have := LZ.out; omega
    have R3 := Lib.hid r3; clear l3 r3
    go_wp2_with fail
    refine (equalInts_any _ _ nz nz _ _ _ _ (by omega) (by omega) _ (R2.out.ints LZ.out) (R3.out.ints LZ.out)).mono ?_
    (rw [decide_eq_true rfl]; rintro e w4 ⟨rfl, N4a⟩)
    have s4 := N4a.le
    have I1 := Lib.hid (I1.out.new N4a)
    have R2 := Lib.hid (R2.out.new N4a)
    have R3 := Lib.hid (R3.out.new N4a)
    have N4 := Lib.hid (N3.out.trans N4a); clear N4a
    have hok : flOkA m1 ys x = true := by
      have h := NE.out
      unfold flexA at h
      by_cases hk : flOkA m1 ys x = true
      · exact hk
      · rw [if_neg hk] at h; exact absurd rfl h
    have he : flexA m1 ys x = flexL m1 ys x := if_pos hok
    obtain ⟨hv, hs⟩ := flOkA_iff.1 hok
    have nm : nz = m1 := by have h1 := LZ.out; rw [he, flexL_len] at h1; omega
    subst nm
    have n8 := (flsB_iff.1 hv).1.2
    have ni8 : (nz : Int) ≤ 8 := by omega
    have HE := Lib.hid he; have HV := Lib.hid hv; have HS := Lib.hid hs
    clear hok he hv
    have SMB : Hid (Sml (colL nz ys 0)) := Lib.hid (all_at (P := fun z => -1000000000 ≤ z ∧ z ≤ 1000000000) fun i hi => by
      rw [colL_len] at hi
      have := flOk_iff.1 ((flsB_iff.1 HV.out).2 i hi)
      rw [colL_at hi, Nat.add_zero]
      omega)
    have LCB := Lib.hid (colL_len nz ys 0)
    have FB : Hid (∀ sl, Stf ys nz sl → flexA nz sl x = colL nz ys 0) := Lib.hid (fun sl h => h.flex HV.out HS.out)
    have NN := Lib.hid N4.out
    clear hs
    go_wp2
    go_loopw [6, 7, 8] (fun t v i wr => ∃ k : Nat, k ≤ nz ∧ i = .int .i64 k ∧ (∃ sl, Hid (OwnFlex w4.heap.size wr t k sl) ∧ Stf ys k sl) ∧ Hid (Own w4.heap.size wr v ((colL nz ys 0).take k)) ∧ Hid (New w4 wr)) (fun _ _ i _ => nz - (intOf i).toNat)
    case atStart => exact ⟨0, Nat.zero_le _, rfl, ⟨[], Lib.hid ((OwnFlex.empty w4 (Nat.le_refl _)).alloc _), Stf.nil ys⟩, Lib.hid (by have h := Own.empty (lo := w4.heap.size) (w4.alloc (.cells #[] 39)) 0 (by simp) rfl; simpa using h), Lib.hid (by (repeat (first | exact New.refl _ | assumption | refine New.alloc ?_ _ | refine New.drew ?_ | refine New.drewN ?_ _ | refine New.setCell ?_ (by first | omega | (simp; omega) | (simp; done)) _ | refine New.trans ?_ (by assumption))))⟩
    case round =>
      obtain ⟨k, hk, rfl, ⟨sl, HT, HF⟩, HO, HNr⟩ := hrel
      by_cases hlt : k < nz
      · obtain ⟨b, off, rfl, hb, hc⟩ := I1.out.at_ (by omega)
        have g0 : wr.cell? ⟨b, off + k * 5, none⟩ = some (.int .i64 (ys.getD (k * 5) 0)) := (HNr.out.cells b _ hb).trans (hc (k * 5) (by omega))
        have g1 : wr.cell? ⟨b, off + k * 5 + 1, none⟩ = some (.int .i64 (ys.getD (k * 5 + 1) 0)) := (HNr.out.cells b _ hb).trans (hc (k * 5 + 1) (by omega))
        have g2 : wr.cell? ⟨b, off + k * 5 + 2, none⟩ = some (.int .i64 (ys.getD (k * 5 + 2) 0)) := (HNr.out.cells b _ hb).trans (hc (k * 5 + 2) (by omega))
        have tk : (colL nz ys 0).take (k + 1) = (colL nz ys 0).take k ++ [ys.getD (k * 5) 0] := by rw [take_snoc_i (by rw [colL_len]; exact hlt), colL_at hlt, Nat.add_zero]
        have tl : ((colL nz ys 0).take k).length = k := by rw [List.length_take, colL_len]; omega
        have TK := Lib.hid tk; have TL := Lib.hid tl
        have SF := Lib.hid HF.snoc
        have HCU := Lib.hid (hc (k * 5) (by omega)); have HCV := Lib.hid (hc (k * 5 + 1) (by omega)); have HCX := Lib.hid (hc (k * 5 + 2) (by omega))
        have sz := HNr.out.le
        clear hc tk tl HF
        have k0 : (0 : Int) ≤ (k : Int) := by omega
        have k1 : (k : Int) < (nz : Int) := by omega
        obtain ⟨u, hu⟩ : ∃ u, ys.getD (k * 5) 0 = u := ⟨_, rfl⟩
        rw [hu] at g0 TK SF HCU
        obtain ⟨u1, hu1⟩ : ∃ u, ys.getD (k * 5 + 1) 0 = u := ⟨_, rfl⟩
        obtain ⟨u2, hu2⟩ : ∃ u, ys.getD (k * 5 + 2) 0 = u := ⟨_, rfl⟩
        rw [hu1] at g1 SF HCV; rw [hu2] at g2 SF HCX
        clear hu1 hu2
        clear hu
        have N7 := Lib.hid HNr.out.drew
        have T7 := Lib.hid (HT.out.new (New.refl wr).drew)
        have O7 := Lib.hid (HO.out.new (New.refl wr).drew)
        have hbr : b < wr.drew.heap.size := Nat.lt_of_lt_of_le hb (HNr.out.drew).le
        have TRI := Lib.hid (⟨g0, g1, g2⟩ : wr.drew.cell? ⟨b, off + k * 5, none⟩ = some (.int .i64 u) ∧ wr.drew.cell? ⟨b, off + k * 5 + 1, none⟩ = some (.int .i64 u1) ∧ wr.drew.cell? ⟨b, off + k * 5 + 2, none⟩ = some (.int .i64 u2))
        have KF := Lib.hid (fun (W : World) (h : New wr.drew W) => (⟨(h.cells _ _ hbr).trans TRI.out.1, (h.cells _ _ hbr).trans TRI.out.2.1, (h.cells _ _ hbr).trans TRI.out.2.2⟩ : W.cell? ⟨b, off + k * 5, none⟩ = some (.int .i64 u) ∧ W.cell? ⟨b, off + k * 5 + 1, none⟩ = some (.int .i64 u1) ∧ W.cell? ⟨b, off + k * 5 + 2, none⟩ = some (.int .i64 u2)))
        have K1 := TRI.out
        have K2 := KF.out (wr.drew.alloc (.cells #[.int .i64 u, .int .i64 u1, .int .i64 u2, .int .i64 0, .int .i64 0] 39)) ((New.refl _).alloc _)
        have BB := Lib.hid hb
        clear HNr HT HO g0 g1 g2
        go_wp2
        go_region_held3 (fun w' => w'.cell? ⟨b, off + k * 5, none⟩ = some (.int .i64 u) ∧ w'.cell? ⟨b, off + k * 5 + 1, none⟩ = some (.int .i64 u1) ∧ w'.cell? ⟨b, off + k * 5 + 2, none⟩ = some (.int .i64 u2))
          (first | exact K1 | exact K2 | exact K6 | assumption)
          (first
            | (refine step_appFlexN rfl (.tmp 44) (.tmp 61) rfl w4.heap.size _ k sl rfl (T7.out.alloc (.cells #[.int .i64 u, .int .i64 u1, .int .i64 u2, .int .i64 0, .int .i64 0] 39)) _ 1 1 [u, u1, u2, 0, 0] rfl ((Row.oneFlex wr.drew u u1 u2 0 0 39).sts5 rfl) (by omega) (N7.out.alloc _).le ?_; intro v6 w6 O6 G6; (have N6 := Lib.hid (new_ownFlex (N7.out.alloc _) G6 (T7.out.alloc _) (Nat.le_refl _))); (have O8 := Lib.hid ((O7.out.alloc _).keptFlex (T7.out.alloc _) G6)); (have K6 : w6.cell? ⟨b, off + k * 5, none⟩ = some (.int .i64 u) ∧ w6.cell? ⟨b, off + k * 5 + 1, none⟩ = some (.int .i64 u1) ∧ w6.cell? ⟨b, off + k * 5 + 2, none⟩ = some (.int .i64 u2) := ⟨(N6.out.cells b _ BB.out).trans HCU.out, (N6.out.cells b _ BB.out).trans HCV.out, (N6.out.cells b _ BB.out).trans HCX.out⟩); (have g0 := K6.1); (replace O6 := Lib.hid O6); (have s6 := N6.out.le); clear G6))
        go_wp2_with (at_builtin; refine wp_app rfl _ _ rfl w4.heap.size _ _ rfl (O8.out.alloc _) (some ⟨w6.heap.size, 0, none⟩) 1 1 [u] rfl (Ints.one w6 _ _) (by rw [TL.out]; omega) (by simp; omega) ?_; intro v9 w9 O9 G9)
        have N9 := Lib.hid (new_own (N6.out.alloc _) G9 (O8.out.alloc _) (Nat.le_refl _))
        have T9 := Lib.hid ((O6.out.alloc _).keptOwn (O8.out.alloc _) G9)
        replace O9 := Lib.hid O9
        clear G9 O6 O8 N6
        go_wp2
        go_roundw
        case rel => exact ⟨k + 1, by omega, by go_num, ⟨_, T9, SF.out⟩, Lib.hid (by rw [TK.out]; exact O9.out), N9⟩
        case measure => simp [intOf]; omega
      · obtain rfl : nz = k := by omega
        have HO2 := HO.out
        rw [List.take_of_length_le (by rw [colL_len]; exact Nat.le_refl _)] at HO2
        obtain ⟨A9, c9, hv9, _, Z9⟩ := HO2.res
        rw [colL_len] at hv9
        subst hv9
        have R9 := Lib.hid Z9
        have I1 := Lib.hid (I1.out.new HNr.out)
        have R2 := Lib.hid (R2.out.new HNr.out)
        have NN := Lib.hid (NN.out.trans HNr.out)
        clear HO HO2 Z9 HNr
        obtain ⟨wo, rfl⟩ : ∃ x, x = wr := ⟨wr, rfl⟩
        obtain ⟨A7, c7, hv7, _, Z7⟩ := HT.out.res
        subst hv7
        have HL7 := HT.out.2
        have R7 := Lib.hid (Sts.of_res (m := 4) Z7 HL7)
        have FS7 := Lib.hid (FB.out sl HF)
        clear Z7 HT HF
        go_wp2_with fail
        refine (FlexSizes_ans sl x _ nz c7 _ R7.out (by omega)).mono ?_
        rintro e w8 ⟨A8, n8, c8, rfl, l8, r8, N8a⟩
        rw [FS7.out] at l8 r8
        obtain rfl : nz = n8 := by have := LCB.out; omega
        have R8 := Lib.hid (r8.ints LCB.out)
        have R9 := Lib.hid ((R9.out.ints LCB.out).new N8a)
        have NN := Lib.hid (NN.out.trans N8a); clear N8a r8 l8
        go_wp2_with fail
        refine (equalInts_any _ _ nz nz _ _ _ _ (by omega) (by omega) _ R8.out R9.out).mono ?_
        rw [decide_eq_true rfl]
        rintro e w10 ⟨rfl, N10⟩
        have NN := Lib.hid (NN.out.trans N10); clear N10
        go_wp2
        go_ret
        exact ⟨rfl, NN.out⟩
end Go.Proofs.Ythgfkdgdblfogaa
