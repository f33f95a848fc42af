/- The law FnFlexSizesBase, walked: for the sum of all bases the sizes are the bases, and who has no weight stays. Condition: the code can be read. -/
import Derived.Test.YthgfkdgdblfogaaDrawFS
import Derived.Test.YthgfkdgdblfogaaFlexE
import Derived.Test.YthgfkdgdblfogaaInts2
namespace Go.Proofs.Ythgfkdgdblfogaa
open Go.RowKit

set_option maxRecDepth 100000 in
set_option maxHeartbeats 4000000 in
theorem lawFlexSizesBase (A : Option Addr) (n c : Nat) (hn : n ≤ maxLen) (hnc : n ≤ c) (w : World) (hb : Bytes w A n) :
    Calls Try.prog 9 #[.slice A n c] w fun e w' => e = .returned (.bool true) ∧ New w w' := by
  have HB := Lib.hid hb; have HM := Lib.hid hn
  clear hb
  unfold maxLen at hn
  by_cases hbig : 1048576 < n
  · go_enter Try.func9, Try.ntmps9
    go_wp2
    go_ret
    exact ⟨rfl, by (repeat (first | exact New.refl _ | assumption | refine New.alloc ?_ _ | refine New.drew ?_ | refine New.drewN ?_ _ | refine New.setCell ?_ (by first | omega | (simp; omega) | (simp; done)) _ | refine New.trans ?_ (by assumption)))⟩
  have hm : (n : Int) ≤ 1048576 := by omega
  have hm0 : (0 : Int) ≤ (n : Int) := by omega
  go_enter Try.func9, Try.ntmps9
  go_wp2_with fail
  refine (DrawFlexSizes_any A n c HM.out hnc _ HB.out).mono ?_
  rintro e w1 ⟨B1, m1, d1, ys, x, rfl, I1, mc, m9, _, xb, N1a⟩
  have s1 := N1a.le
  have N1 := Lib.hid ((New.refl w).trans N1a); clear N1a
  replace I1 := Lib.hid I1
  have LY := Lib.hid I1.out.len
  have y0 : (0 : Int) ≤ (m1 : Int) := by omega
  have y1 : (m1 : Int) ≤ 9 := by omega
  by_cases hz : flexA m1 ys x = []
  · have HZ := Lib.hid hz
    clear hz
    go_wp2_with fail
    refine (FlexSizes_ans ys x B1 m1 d1 _ I1.out (by omega)).mono ?_
    rintro e w2 ⟨A2, n2, c2, rfl, l2, r2, N2a⟩
    have s2 := N2a.le
    have I1 := Lib.hid (I1.out.new N2a)
    have N2 := Lib.hid (N1.out.trans N2a); clear N2a
    rw [HZ.out] at l2 r2
    obtain rfl : 0 = n2 := by simpa using l2
    have R2 := Lib.hid r2; clear l2 r2
    go_wp2_with fail
    refine (SFlexSizes_ans ys x B1 m1 d1 _ I1.out (by omega)).mono ?_
    rintro e w3 ⟨A3, n3, c3, rfl, l3, r3, N3a⟩
    have s3 := N3a.le
    have I1 := Lib.hid (I1.out.new N3a)
    have R2 := Lib.hid (R2.out.new N3a)
    have N3 := Lib.hid (N2.out.trans N3a); clear N3a
    rw [HZ.out] at l3 r3
    obtain rfl : 0 = n3 := by simpa using l3
    have R3 := Lib.hid r3; clear l3 r3
    go_wp2_with fail
    refine (equalInts_any _ _ 0 0 _ _ [] [] (by omega) (by omega) _ (R2.out.ints rfl) (R3.out.ints rfl)).mono ?_
    (rw [decide_eq_true rfl]; rintro e w4 ⟨rfl, N4a⟩)
    have s4 := N4a.le
    have I1 := Lib.hid (I1.out.new N4a)
    have R2 := Lib.hid (R2.out.new N4a)
    have R3 := Lib.hid (R3.out.new N4a)
    have N4 := Lib.hid (N3.out.trans N4a); clear N4a
    go_wp2_with fail
    refine (SFlexSizes_ans ys x B1 m1 d1 _ I1.out (by omega)).mono ?_
    rintro e w5 ⟨A5, n5, c5, rfl, l5, r5, N5a⟩
    have s5 := N5a.le
    have I1 := Lib.hid (I1.out.new N5a)
    have R2 := Lib.hid (R2.out.new N5a)
    have R3 := Lib.hid (R3.out.new N5a)
    have N5 := Lib.hid (N4.out.trans N5a); clear N5a
    rw [HZ.out] at l5 r5
    obtain rfl : 0 = n5 := by simpa using l5
    have R5 := Lib.hid r5; clear l5 r5
    go_wp2_with fail
    refine (equalInts_any _ _ 0 0 _ _ [] [] (by omega) (by omega) _ (R2.out.ints rfl) (R5.out.ints rfl)).mono ?_
    (rw [decide_eq_true rfl]; rintro e w6 ⟨rfl, N6a⟩)
    have s6 := N6a.le
    have I1 := Lib.hid (I1.out.new N6a)
    have R2 := Lib.hid (R2.out.new N6a)
    have R3 := Lib.hid (R3.out.new N6a)
    have R5 := Lib.hid (R5.out.new N6a)
    have N6 := Lib.hid (N5.out.trans N6a); clear N6a
    go_wp2
    go_ret
    exact ⟨rfl, N6.out⟩
  · have zp : 0 < (flexA m1 ys x).length := List.length_pos_iff.2 hz
    have zc := flexA_len m1 ys x
    obtain ⟨nz, LZ⟩ : ∃ nz, Hid ((flexA m1 ys x).length = nz) := ⟨_, Lib.hid rfl⟩
    have z1 : 1 ≤ nz := by have := LZ.out; omega
    have z8 : nz ≤ 1048576 := by have := LZ.out; omega
    have zi : (1 : Int) ≤ (nz : Int) := by omega
    have zj : (nz : Int) ≤ 1048576 := by omega
    have zb : ((nz : Int) == 0) = false := by simp; omega
    have NE := Lib.hid hz
    clear hz zp zc
    go_wp2_with fail
    refine (FlexSizes_ans ys x B1 m1 d1 _ I1.out (by omega)).mono ?_
    rintro e w2 ⟨A2, n2, c2, rfl, l2, r2, N2a⟩
    have s2 := N2a.le
    have I1 := Lib.hid (I1.out.new N2a)
    have N2 := Lib.hid (N1.out.trans N2a); clear N2a
    obtain rfl : nz = n2 := by have := LZ.out; omega
    have R2 := Lib.hid r2; clear l2 r2
    go_wp2_with fail
    refine (SFlexSizes_ans ys x B1 m1 d1 _ I1.out (by omega)).mono ?_
    rintro e w3 ⟨A3, n3, c3, rfl, l3, r3, N3a⟩
    have s3 := N3a.le
    have I1 := Lib.hid (I1.out.new N3a)
    have R2 := Lib.hid (R2.out.new N3a)
    have N3 := Lib.hid (N2.out.trans N3a); clear N3a
    obtain rfl : nz = n3 := by have := LZ.out; omega
    have R3 := Lib.hid r3; clear l3 r3
    go_wp2_with fail
    refine (equalInts_any _ _ nz nz _ _ _ _ (by omega) (by omega) _ (R2.out.ints LZ.out) (R3.out.ints LZ.out)).mono ?_
    (rw [decide_eq_true rfl]; rintro e w4 ⟨rfl, N4a⟩)
    have s4 := N4a.le
    have I1 := Lib.hid (I1.out.new N4a)
    have R2 := Lib.hid (R2.out.new N4a)
    have R3 := Lib.hid (R3.out.new N4a)
    have N4 := Lib.hid (N3.out.trans N4a); clear N4a
    have hok : flOkA m1 ys x = true := by
      have h := NE.out
      unfold flexA at h
      by_cases hk : flOkA m1 ys x = true
      · exact hk
      · rw [if_neg hk] at h; exact absurd rfl h
    have he : flexA m1 ys x = flexL m1 ys x := if_pos hok
    obtain ⟨hv, hs⟩ := flOkA_iff.1 hok
    have nm : nz = m1 := by have h1 := LZ.out; rw [he, flexL_len] at h1; omega
    subst nm
    have n8 := (flsB_iff.1 hv).1.2
    have ni8 : (nz : Int) ≤ 8 := by omega
    have HE := Lib.hid he; have HV := Lib.hid hv; have HS := Lib.hid hs
    clear hok he hv
    have SMB : Hid (Sml (colL nz ys 0)) := Lib.hid (all_at (P := fun z => -1000000000 ≤ z ∧ z ≤ 1000000000) fun i hi => by
      rw [colL_len] at hi
      have := flOk_iff.1 ((flsB_iff.1 HV.out).2 i hi)
      rw [colL_at hi, Nat.add_zero]
      omega)
    have LCB := Lib.hid (colL_len nz ys 0)
    have ff : Hid (∀ i, i < nz → (ys.getD (i * 5 + 3) 0 = 0 → ¬ ys.getD (i * 5) 0 < (flexA nz ys x).getD i 0) ∧ (ys.getD (i * 5 + 4) 0 = 0 → ¬ (flexA nz ys x).getD i 0 < ys.getD (i * 5) 0)) := Lib.hid (fun i hi => by
      rw [HE.out]
      by_cases hl : 0 ≤ x - (colL nz ys 0).sum
      · obtain ⟨a1, _, _, a4⟩ := flex_grow HV.out HS.out hl
        exact ⟨fun h1 => by rw [a4 i hi h1]; omega, fun _ => by have := a1 i hi; omega⟩
      · obtain ⟨a1, _, _, a4⟩ := flex_shrink HV.out HS.out hl
        exact ⟨fun _ => by have := a1 i hi; omega, fun h1 => by rw [a4 i hi h1]; omega⟩)
    have FB : Hid (flexA nz ys (colL nz ys 0).sum = colL nz ys 0) := Lib.hid (by
      unfold flexA
      rw [if_pos (flOkA_iff.2 ⟨HV.out, cbase_bd HV.out⟩), flex_base HV.out])
    have NN := Lib.hid N4.out
    clear hs
    go_wp2
    go_loopw [6, 7] (fun v i wr => ∃ k : Nat, k ≤ nz ∧ i = .int .i64 k ∧ Hid (Own w4.heap.size wr v ((colL nz ys 0).take k)) ∧ Hid (New w4 wr)) (fun _ i _ => nz - (intOf i).toNat)
    case atStart => exact ⟨0, Nat.zero_le _, rfl, Lib.hid (Own.empty w4 0 (Nat.le_refl _) rfl), Lib.hid (by (repeat (first | exact New.refl _ | assumption | refine New.alloc ?_ _ | refine New.drew ?_ | refine New.drewN ?_ _ | refine New.setCell ?_ (by first | omega | (simp; omega) | (simp; done)) _ | refine New.trans ?_ (by assumption))))⟩
    case round =>
      obtain ⟨k, hk, rfl, HO, HNr⟩ := hrel
      by_cases hlt : k < nz
      · obtain ⟨b, off, rfl, hb, hc⟩ := I1.out.at_ (by omega)
        have g0 : wr.cell? ⟨b, off + k * 5, none⟩ = some (.int .i64 (ys.getD (k * 5) 0)) := (HNr.out.cells b _ hb).trans (hc (k * 5) (by omega))
        have tk : (colL nz ys 0).take (k + 1) = (colL nz ys 0).take k ++ [ys.getD (k * 5) 0] := by rw [take_snoc_i (by rw [colL_len]; exact hlt), colL_at hlt, Nat.add_zero]
        have tl : ((colL nz ys 0).take k).length = k := by rw [List.length_take, colL_len]; omega
        have TK := Lib.hid tk; have TL := Lib.hid tl
        have sz := HNr.out.le
        clear hc tk tl
        have k0 : (0 : Int) ≤ (k : Int) := by omega
        have k1 : (k : Int) < (nz : Int) := by omega
        generalize ys.getD (k * 5) 0 = u at *
        go_wp2_with (at_builtin; refine wp_app rfl _ _ rfl w4.heap.size _ _ rfl (HO.out.alloc _) (some ⟨wr.heap.size, 0, none⟩) 1 1 [u] rfl (Ints.one wr _ _) (by rw [TL.out]; omega) (by simp; omega) ?_; intro v6 w6 O6 G6; (have N6 := Lib.hid (new_own (HNr.out.alloc _) G6 (HO.out.alloc _) (Nat.le_refl _))); (have O6 := Lib.hid O6); clear G6)
        go_wp2
        go_roundw
        case rel => exact ⟨k + 1, by omega, by go_num, Lib.hid (by rw [TK.out]; exact O6.out), N6⟩
        case measure => simp [intOf]; omega
      · obtain rfl : nz = k := by omega
        have HO2 := HO.out
        rw [List.take_of_length_le (by rw [colL_len]; exact Nat.le_refl _)] at HO2
        obtain ⟨A9, c9, hv9, _, Z9⟩ := HO2.res
        rw [colL_len] at hv9
        subst hv9
        have R9 := Lib.hid Z9
        have I1 := Lib.hid (I1.out.new HNr.out)
        have R2 := Lib.hid (R2.out.new HNr.out)
        have NN := Lib.hid (NN.out.trans HNr.out)
        clear HO HO2 Z9 HNr
        obtain ⟨wo, rfl⟩ : ∃ x, x = wr := ⟨wr, rfl⟩
        obtain ⟨b, off, rfl, hb, hc⟩ := I1.out.at_ (by omega)
        obtain ⟨b', off', rfl, hb', hc'⟩ := (R2.out.ints LZ.out).at_ (by omega)
        have HC := Lib.hid hc; have HC' := Lib.hid hc'
        clear hc hc'
        go_wp2
        go_loopw [8] (fun i wr => ∃ (k : Nat), k ≤ nz ∧ i = .int .i64 k ∧ ∃ q, wr = wo.drewN q) (fun i _ => nz - (intOf i).toNat)
        case atStart => exact ⟨0, Nat.zero_le _, rfl, 0, rfl⟩
        case round =>
          obtain ⟨k, hk, rfl, q, rfl⟩ := hrel
          by_cases hlt : k < nz
          · have f0 := ff.out k hlt
            have go_ : wo.cell? ⟨b', off' + k, none⟩ = some (.int .i64 ((flexA nz ys x).getD k 0)) := HC'.out k hlt
            have g0 : wo.cell? ⟨b, off + k * 5, none⟩ = some (.int .i64 (ys.getD (k * 5) 0)) := HC.out (k * 5) (by omega)
            have g3 : wo.cell? ⟨b, off + k * 5 + 3, none⟩ = some (.int .i64 (ys.getD (k * 5 + 3) 0)) := HC.out (k * 5 + 3) (by omega)
            have g4 : wo.cell? ⟨b, off + k * 5 + 4, none⟩ = some (.int .i64 (ys.getD (k * 5 + 4) 0)) := HC.out (k * 5 + 4) (by omega)
            have k0 : (0 : Int) ≤ (k : Int) := by omega
            have k1 : (k : Int) < (nz : Int) := by omega
            generalize (flexA nz ys x).getD k 0 = o at *
            generalize ys.getD (k * 5) 0 = u0 at *
            generalize ys.getD (k * 5 + 3) 0 = u3 at *
            generalize ys.getD (k * 5 + 4) 0 = u4 at *
            have arms : ((u3 == 0) = false ∧ (u4 == 0) = false) ∨ ((u3 == 0) = false ∧ (u4 == 0) = true ∧ decide (o < u0) = false) ∨ ((u3 == 0) = true ∧ decide (u0 < o) = false ∧ (u4 == 0) = false) ∨ ((u3 == 0) = true ∧ decide (u0 < o) = false ∧ (u4 == 0) = true ∧ decide (o < u0) = false) := by
              simp only [decide_eq_false_iff_not, beq_eq_false_iff_ne, beq_iff_eq, ne_eq]
              obtain ⟨f1, f2⟩ := f0
              by_cases h1 : u3 = 0
              · by_cases h2 : u4 = 0
                · exact .inr (.inr (.inr ⟨h1, by have := f1 h1; omega, h2, by have := f2 h2; omega⟩))
                · exact .inr (.inr (.inl ⟨h1, by have := f1 h1; omega, h2⟩))
              · by_cases h2 : u4 = 0
                · exact .inr (.inl ⟨h1, h2, by have := f2 h2; omega⟩)
                · exact .inl ⟨h1, h2⟩
            clear f0
            rcases arms with ⟨e1, e2⟩ | ⟨e1, e2, e3⟩ | ⟨e1, e2, e3⟩ | ⟨e1, e2, e3, e4⟩
            all_goals
              go_wp2
              go_quiet (fail)
              go_wp2
              go_roundw
              case rel => exact ⟨k + 1, by omega, by go_num, _, rfl⟩
              case measure => simp [intOf]; omega
          · obtain rfl : k = nz := by omega
            have I1 := Lib.hid (I1.out.drewN q)
            have R9 := Lib.hid ((R9.out.ints LCB.out).drewN q)
            have NN := Lib.hid (NN.out.drewN q)
            clear HC HC' R2
            generalize wo.drewN q = wz at *
            go_wp2_with fail
            refine (lsum_any _ k _ _ (by omega) _ R9.out SMB.out).mono ?_
            rintro e w' ⟨rfl, rfl⟩
            go_wp2_with fail
            refine (FlexSizes_ans ys (colL k ys 0).sum _ k d1 _ I1.out (by omega)).mono ?_
            rintro e w8 ⟨A8, n8, c8, rfl, l8, r8, N8a⟩
            rw [FB.out] at l8 r8
            obtain rfl : k = n8 := by have := LCB.out; omega
            have R8 := Lib.hid (r8.ints LCB.out)
            have R9 := Lib.hid (R9.out.new N8a)
            have NN := Lib.hid (NN.out.trans N8a); clear N8a r8 l8
            go_wp2_with fail
            refine (equalInts_any _ _ k k _ _ _ _ (by omega) (by omega) _ R8.out R9.out).mono ?_
            rw [decide_eq_true rfl]
            rintro e w10 ⟨rfl, N10⟩
            have NN := Lib.hid (NN.out.trans N10); clear N10
            go_wp2
            go_ret
            exact ⟨rfl, NN.out⟩
end Go.Proofs.Ythgfkdgdblfogaa
