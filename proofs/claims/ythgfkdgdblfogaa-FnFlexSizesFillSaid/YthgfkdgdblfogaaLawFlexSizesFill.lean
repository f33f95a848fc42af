/- The law FnFlexSizesFill, walked: the sizes fill the space, or have reached their bounds. Condition: the code can be read. -/
import Derived.Test.YthgfkdgdblfogaaDrawFS
import Derived.Test.YthgfkdgdblfogaaFlexE
import Derived.Test.YthgfkdgdblfogaaInts2
namespace Go.Proofs.Ythgfkdgdblfogaa
open Go.RowKit

set_option maxRecDepth 100000 in
set_option maxHeartbeats 4000000 in
theorem lawFlexSizesFill (A : Option Addr) (n c : Nat) (hn : n ≤ maxLen) (hnc : n ≤ c) (w : World) (hb : Bytes w A n) :
    Calls Try.prog 8 #[.slice A n c] w fun e w' => e = .returned (.bool true) ∧ New w w' := by
  have HB := Lib.hid hb; have HM := Lib.hid hn
  clear hb
  unfold maxLen at hn
  by_cases hbig : 1048576 < n
  · go_enter Try.func8, Try.ntmps8
    go_wp2
    go_ret
    exact ⟨rfl, by (repeat (first | exact New.refl _ | assumption | refine New.alloc ?_ _ | refine New.drew ?_ | refine New.drewN ?_ _ | refine New.setCell ?_ (by first | omega | (simp; omega) | (simp; done)) _ | refine New.trans ?_ (by assumption)))⟩
  have hm : (n : Int) ≤ 1048576 := by omega
  have hm0 : (0 : Int) ≤ (n : Int) := by omega
  go_enter Try.func8, Try.ntmps8
  go_wp2_with fail
  refine (DrawFlexSizes_any A n c HM.out hnc _ HB.out).mono ?_
  rintro e w1 ⟨B1, m1, d1, ys, x, rfl, I1, mc, m9, _, xb, N1a⟩
  have s1 := N1a.le
  have N1 := Lib.hid ((New.refl w).trans N1a); clear N1a
  replace I1 := Lib.hid I1
  have LY := Lib.hid I1.out.len
  have y0 : (0 : Int) ≤ (m1 : Int) := by omega
  have y1 : (m1 : Int) ≤ 9 := by omega
  by_cases hz : flexA m1 ys x = []
  · have HZ := Lib.hid hz
    clear hz
    go_wp2_with fail
    refine (FlexSizes_ans ys x B1 m1 d1 _ I1.out (by omega)).mono ?_
    rintro e w2 ⟨A2, n2, c2, rfl, l2, r2, N2a⟩
    have s2 := N2a.le
    have I1 := Lib.hid (I1.out.new N2a)
    have N2 := Lib.hid (N1.out.trans N2a); clear N2a
    rw [HZ.out] at l2 r2
    obtain rfl : 0 = n2 := by simpa using l2
    have R2 := Lib.hid r2; clear l2 r2
    go_wp2_with fail
    refine (SFlexSizes_ans ys x B1 m1 d1 _ I1.out (by omega)).mono ?_
    rintro e w3 ⟨A3, n3, c3, rfl, l3, r3, N3a⟩
    have s3 := N3a.le
    have I1 := Lib.hid (I1.out.new N3a)
    have R2 := Lib.hid (R2.out.new N3a)
    have N3 := Lib.hid (N2.out.trans N3a); clear N3a
    rw [HZ.out] at l3 r3
    obtain rfl : 0 = n3 := by simpa using l3
    have R3 := Lib.hid r3; clear l3 r3
    go_wp2_with fail
    refine (equalInts_any _ _ 0 0 _ _ [] [] (by omega) (by omega) _ (R2.out.ints rfl) (R3.out.ints rfl)).mono ?_
    (rw [decide_eq_true rfl]; rintro e w4 ⟨rfl, N4a⟩)
    have s4 := N4a.le
    have I1 := Lib.hid (I1.out.new N4a)
    have R2 := Lib.hid (R2.out.new N4a)
    have R3 := Lib.hid (R3.out.new N4a)
    have N4 := Lib.hid (N3.out.trans N4a); clear N4a
    go_wp2_with fail
    refine (SFlexSizes_ans ys x B1 m1 d1 _ I1.out (by omega)).mono ?_
    rintro e w5 ⟨A5, n5, c5, rfl, l5, r5, N5a⟩
    have s5 := N5a.le
    have I1 := Lib.hid (I1.out.new N5a)
    have R2 := Lib.hid (R2.out.new N5a)
    have R3 := Lib.hid (R3.out.new N5a)
    have N5 := Lib.hid (N4.out.trans N5a); clear N5a
    rw [HZ.out] at l5 r5
    obtain rfl : 0 = n5 := by simpa using l5
    have R5 := Lib.hid r5; clear l5 r5
    go_wp2_with fail
    refine (equalInts_any _ _ 0 0 _ _ [] [] (by omega) (by omega) _ (R2.out.ints rfl) (R5.out.ints rfl)).mono ?_
    (rw [decide_eq_true rfl]; rintro e w6 ⟨rfl, N6a⟩)
    have s6 := N6a.le
    have I1 := Lib.hid (I1.out.new N6a)
    have R2 := Lib.hid (R2.out.new N6a)
    have R3 := Lib.hid (R3.out.new N6a)
    have R5 := Lib.hid (R5.out.new N6a)
    have N6 := Lib.hid (N5.out.trans N6a); clear N6a
    go_wp2
    go_ret
    exact ⟨rfl, N6.out⟩
  · have zp : 0 < (flexA m1 ys x).length := List.length_pos_iff.2 hz
    have zc := flexA_len m1 ys x
    obtain ⟨nz, LZ⟩ : ∃ nz, Hid ((flexA m1 ys x).length = nz) := ⟨_, Lib.hid rfl⟩
    have z1 : 1 ≤ nz := by have := LZ.out; omega
    have z8 : nz ≤ 1048576 := by have := LZ.out; omega
    have zi : (1 : Int) ≤ (nz : Int) := by omega
    have zj : (nz : Int) ≤ 1048576 := by omega
    have zb : ((nz : Int) == 0) = false := by simp; omega
    have NE := Lib.hid hz
    clear hz zp zc
    go_wp2_with fail
    refine (FlexSizes_ans ys x B1 m1 d1 _ I1.out (by omega)).mono ?_
    rintro e w2 ⟨A2, n2, c2, rfl, l2, r2, N2a⟩
    have s2 := N2a.le
    have I1 := Lib.hid (I1.out.new N2a)
    have N2 := Lib.hid (N1.out.trans N2a); clear N2a
    obtain rfl : nz = n2 := by have := LZ.out; omega
    have R2 := Lib.hid r2; clear l2 r2
    go_wp2_with fail
    refine (SFlexSizes_ans ys x B1 m1 d1 _ I1.out (by omega)).mono ?_
    rintro e w3 ⟨A3, n3, c3, rfl, l3, r3, N3a⟩
    have s3 := N3a.le
    have I1 := Lib.hid (I1.out.new N3a)
    have R2 := Lib.hid (R2.out.new N3a)
    have N3 := Lib.hid (N2.out.trans N3a); clear N3a
    obtain rfl : nz = n3 := by have := LZ.out; omega
    have R3 := Lib.hid r3; clear l3 r3
    go_wp2_with fail
    refine (equalInts_any _ _ nz nz _ _ _ _ (by omega) (by omega) _ (R2.out.ints LZ.out) (R3.out.ints LZ.out)).mono ?_
    (rw [decide_eq_true rfl]; rintro e w4 ⟨rfl, N4a⟩)
    have s4 := N4a.le
    have I1 := Lib.hid (I1.out.new N4a)
    have R2 := Lib.hid (R2.out.new N4a)
    have R3 := Lib.hid (R3.out.new N4a)
    have N4 := Lib.hid (N3.out.trans N4a); clear N4a
    have hok : flOkA m1 ys x = true := by
      have h := NE.out
      unfold flexA at h
      by_cases hk : flOkA m1 ys x = true
      · exact hk
      · rw [if_neg hk] at h; exact absurd rfl h
    have he : flexA m1 ys x = flexL m1 ys x := if_pos hok
    obtain ⟨hv, hs⟩ := flOkA_iff.1 hok
    have nm : nz = m1 := by have h1 := LZ.out; rw [he, flexL_len] at h1; omega
    subst nm
    have n8 := (flsB_iff.1 hv).1.2
    have ni8 : (nz : Int) ≤ 8 := by omega
    have HE := Lib.hid he; have HV := Lib.hid hv; have HS := Lib.hid hs
    clear hok he hv
    have SM : Hid (Sml (flexA nz ys x)) := Lib.hid (by rw [HE.out]; exact flexL_sml HV.out HS.out)
    have sb := sum_bd SM.out nz
    rw [List.take_of_length_le (by have := LZ.out; omega)] at sb
    have ff : Hid (∀ i, i < nz → (x - (flexA nz ys x).sum > 0 → ys.getD (i * 5 + 3) 0 > 0 → ¬ (flexA nz ys x).getD i 0 < ys.getD (i * 5 + 2) 0) ∧ (x - (flexA nz ys x).sum < 0 → ys.getD (i * 5 + 4) 0 > 0 → ¬ (flexA nz ys x).getD i 0 > ys.getD (i * 5 + 1) 0)) := Lib.hid (fun i hi => by
      rw [HE.out]
      by_cases hl : 0 ≤ x - (colL nz ys 0).sum
      · obtain ⟨_, a2, a3, _⟩ := flex_grow HV.out HS.out hl
        exact ⟨fun h1 h2 => by rw [a3 (by omega) i hi h2]; omega, fun h1 => absurd h1 (by omega)⟩
      · obtain ⟨_, a2, a3, _⟩ := flex_shrink HV.out HS.out hl
        exact ⟨fun h1 => absurd h1 (by omega), fun h1 h2 => by rw [a3 (by omega) i hi h2]; omega⟩)
    obtain ⟨hs0, hs1⟩ := hs
    go_wp2_with fail
    refine (lsum_any _ nz _ _ (by omega) _ (R2.out.ints LZ.out) SM.out).mono ?_
    rintro e w' ⟨rfl, rfl⟩
    obtain ⟨b, off, rfl, hb, hc⟩ := I1.out.at_ (by omega)
    obtain ⟨b', off', rfl, hb', hc'⟩ := (R2.out.ints LZ.out).at_ (by omega)
    have HC := Lib.hid hc; have HC' := Lib.hid hc'
    have NN := Lib.hid N4.out
    clear hc hc'
    generalize (flexA nz ys x).sum = t at *
    obtain ⟨n0, hn0⟩ : ∃ n0, x - t = n0 := ⟨_, rfl⟩
    have sw : wrap64 (x - t) = n0 := by rw [← wrapEq64, ← hn0]; exact IntWalk.i64_in _ (by omega)
    have ff2 := Lib.hid (fun i hi => by have h := ff.out i hi; rw [hn0] at h; exact h)
    clear sb ff hn0
    go_wp2
    go_loopw [7] (fun i wr => ∃ (k : Nat), k ≤ nz ∧ i = .int .i64 k ∧ ∃ q, wr = w4.drewN q) (fun i _ => nz - (intOf i).toNat)
    case atStart => exact ⟨0, Nat.zero_le _, rfl, 0, rfl⟩
    case round =>
      obtain ⟨k, hk, rfl, q, rfl⟩ := hrel
      by_cases hlt : k < nz
      · have f0 := ff2.out k hlt
        have go_ : w4.cell? ⟨b', off' + k, none⟩ = some (.int .i64 ((flexA nz ys x).getD k 0)) := HC'.out k hlt
        have g1 : w4.cell? ⟨b, off + k * 5 + 1, none⟩ = some (.int .i64 (ys.getD (k * 5 + 1) 0)) := HC.out (k * 5 + 1) (by omega)
        have g2 : w4.cell? ⟨b, off + k * 5 + 2, none⟩ = some (.int .i64 (ys.getD (k * 5 + 2) 0)) := HC.out (k * 5 + 2) (by omega)
        have g3 : w4.cell? ⟨b, off + k * 5 + 3, none⟩ = some (.int .i64 (ys.getD (k * 5 + 3) 0)) := HC.out (k * 5 + 3) (by omega)
        have g4 : w4.cell? ⟨b, off + k * 5 + 4, none⟩ = some (.int .i64 (ys.getD (k * 5 + 4) 0)) := HC.out (k * 5 + 4) (by omega)
        have k0 : (0 : Int) ≤ (k : Int) := by omega
        have k1 : (k : Int) < (nz : Int) := by omega
        generalize (flexA nz ys x).getD k 0 = o at *
        generalize ys.getD (k * 5 + 1) 0 = u1 at *
        generalize ys.getD (k * 5 + 2) 0 = u2 at *
        generalize ys.getD (k * 5 + 3) 0 = u3 at *
        generalize ys.getD (k * 5 + 4) 0 = u4 at *
        have arms : (0 < n0 ∧ decide (n0 < 0) = false ∧ 0 < u3 ∧ decide (o < u2) = false) ∨ (0 < n0 ∧ decide (n0 < 0) = false ∧ decide (0 < u3) = false) ∨ (decide (0 < n0) = false ∧ decide (n0 < 0) = false) ∨ (decide (0 < n0) = false ∧ n0 < 0 ∧ 0 < u4 ∧ decide (u1 < o) = false) ∨ (decide (0 < n0) = false ∧ n0 < 0 ∧ decide (0 < u4) = false) := by
          simp only [decide_eq_false_iff_not]
          obtain ⟨f1, f2⟩ := f0
          by_cases h1 : n0 > 0
          · by_cases h2 : u3 > 0
            · exact .inl ⟨h1, by omega, h2, by have := f1 h1 h2; omega⟩
            · exact .inr (.inl ⟨h1, by omega, by omega⟩)
          · by_cases h2 : n0 < 0
            · by_cases h3 : u4 > 0
              · exact .inr (.inr (.inr (.inl ⟨by omega, h2, h3, by have := f2 h2 h3; omega⟩)))
              · exact .inr (.inr (.inr (.inr ⟨by omega, h2, by omega⟩)))
            · exact .inr (.inr (.inl ⟨by omega, h2⟩))
        clear f0
        rcases arms with ⟨e1, e2, e3, e4⟩ | ⟨e1, e2, e3⟩ | ⟨e1, e2⟩ | ⟨e1, e2, e3, e4⟩ | ⟨e1, e2, e3⟩
        all_goals
          go_wp2
          go_quiet (fail)
          go_wp2
          go_roundw
          case rel => exact ⟨k + 1, by omega, by go_num, _, rfl⟩
          case measure => simp [intOf]; omega
      · obtain rfl : k = nz := by omega
        go_wp2
        go_ret
        exact ⟨rfl, NN.out.drewN q⟩
end Go.Proofs.Ythgfkdgdblfogaa
