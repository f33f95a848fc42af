/- The law FnFlexSizes, walked: the sizes keep their bounds, and do not grow and shrink at once. Condition: the code can be read. -/
import Derived.Test.YthgfkdgdblfogaaDrawFS
import Derived.Test.YthgfkdgdblfogaaFlexE
import Derived.Test.YthgfkdgdblfogaaInts2
namespace Go.Proofs.Ythgfkdgdblfogaa
open Go.RowKit

set_option maxRecDepth 100000 in
set_option maxHeartbeats 4000000 in
theorem lawFlexSizes (A : Option Addr) (n c : Nat) (hn : n ≤ maxLen) (hnc : n ≤ c) (w : World) (hb : Bytes w A n) :
    Calls Try.prog 7 #[.slice A n c] w fun e w' => e = .returned (.bool true) ∧ New w w' := by
  have HB := Lib.hid hb; have HM := Lib.hid hn
  clear hb
  unfold maxLen at hn
  by_cases hbig : 1048576 < n
  · go_enter Try.func7, Try.ntmps7
    go_wp2
    go_ret
    exact ⟨rfl, by (repeat (first | exact New.refl _ | assumption | refine New.alloc ?_ _ | refine New.drew ?_ | refine New.drewN ?_ _ | refine New.setCell ?_ (by first | omega | (simp; omega) | (simp; done)) _ | refine New.trans ?_ (by assumption)))⟩
  have hm : (n : Int) ≤ 1048576 := by omega
  have hm0 : (0 : Int) ≤ (n : Int) := by omega
  go_enter Try.func7, Try.ntmps7
  go_wp2_with fail
  refine (DrawFlexSizes_any A n c HM.out hnc _ HB.out).mono ?_
  rintro e w1 ⟨B1, m1, d1, ys, x, rfl, I1, mc, m9, _, xb, N1a⟩
  have s1 := N1a.le
  have N1 := Lib.hid ((New.refl w).trans N1a); clear N1a
  replace I1 := Lib.hid I1
  have LY := Lib.hid I1.out.len
  have y0 : (0 : Int) ≤ (m1 : Int) := by omega
  have y1 : (m1 : Int) ≤ 9 := by omega
  by_cases hz : flexA m1 ys x = []
  · have HZ := Lib.hid hz
    clear hz
    go_wp2_with fail
    refine (FlexSizes_ans ys x B1 m1 d1 _ I1.out (by omega)).mono ?_
    rintro e w2 ⟨A2, n2, c2, rfl, l2, r2, N2a⟩
    have s2 := N2a.le
    have I1 := Lib.hid (I1.out.new N2a)
    have N2 := Lib.hid (N1.out.trans N2a); clear N2a
    rw [HZ.out] at l2 r2
    obtain rfl : 0 = n2 := by simpa using l2
    have R2 := Lib.hid r2; clear l2 r2
    go_wp2_with fail
    refine (SFlexSizes_ans ys x B1 m1 d1 _ I1.out (by omega)).mono ?_
    rintro e w3 ⟨A3, n3, c3, rfl, l3, r3, N3a⟩
    have s3 := N3a.le
    have I1 := Lib.hid (I1.out.new N3a)
    have R2 := Lib.hid (R2.out.new N3a)
    have N3 := Lib.hid (N2.out.trans N3a); clear N3a
    rw [HZ.out] at l3 r3
    obtain rfl : 0 = n3 := by simpa using l3
    have R3 := Lib.hid r3; clear l3 r3
    go_wp2_with fail
    refine (equalInts_any _ _ 0 0 _ _ [] [] (by omega) (by omega) _ (R2.out.ints rfl) (R3.out.ints rfl)).mono ?_
    (rw [decide_eq_true rfl]; rintro e w4 ⟨rfl, N4a⟩)
    have s4 := N4a.le
    have I1 := Lib.hid (I1.out.new N4a)
    have R2 := Lib.hid (R2.out.new N4a)
    have R3 := Lib.hid (R3.out.new N4a)
    have N4 := Lib.hid (N3.out.trans N4a); clear N4a
    go_wp2_with fail
    refine (SFlexSizes_ans ys x B1 m1 d1 _ I1.out (by omega)).mono ?_
    rintro e w5 ⟨A5, n5, c5, rfl, l5, r5, N5a⟩
    have s5 := N5a.le
    have I1 := Lib.hid (I1.out.new N5a)
    have R2 := Lib.hid (R2.out.new N5a)
    have R3 := Lib.hid (R3.out.new N5a)
    have N5 := Lib.hid (N4.out.trans N5a); clear N5a
    rw [HZ.out] at l5 r5
    obtain rfl : 0 = n5 := by simpa using l5
    have R5 := Lib.hid r5; clear l5 r5
    go_wp2_with fail
    refine (equalInts_any _ _ 0 0 _ _ [] [] (by omega) (by omega) _ (R2.out.ints rfl) (R5.out.ints rfl)).mono ?_
    (rw [decide_eq_true rfl]; rintro e w6 ⟨rfl, N6a⟩)
    have s6 := N6a.le
    have I1 := Lib.hid (I1.out.new N6a)
    have R2 := Lib.hid (R2.out.new N6a)
    have R3 := Lib.hid (R3.out.new N6a)
    have R5 := Lib.hid (R5.out.new N6a)
    have N6 := Lib.hid (N5.out.trans N6a); clear N6a
    go_wp2
    go_ret
    exact ⟨rfl, N6.out⟩
  · have zp : 0 < (flexA m1 ys x).length := List.length_pos_iff.2 hz
    have zc := flexA_len m1 ys x
    obtain ⟨nz, LZ⟩ : ∃ nz, Hid ((flexA m1 ys x).length = nz) := ⟨_, Lib.hid rfl⟩
    have z1 : 1 ≤ nz := by have := LZ.out; omega
    have z8 : nz ≤ 1048576 := by have := LZ.out; omega
    have zi : (1 : Int) ≤ (nz : Int) := by omega
    have zj : (nz : Int) ≤ 1048576 := by omega
    have zb : ((nz : Int) == 0) = false := by simp; omega
    have NE := Lib.hid hz
    clear hz zp zc
    go_wp2_with fail
    refine (FlexSizes_ans ys x B1 m1 d1 _ I1.out (by omega)).mono ?_
    rintro e w2 ⟨A2, n2, c2, rfl, l2, r2, N2a⟩
    have s2 := N2a.le
    have I1 := Lib.hid (I1.out.new N2a)
    have N2 := Lib.hid (N1.out.trans N2a); clear N2a
    obtain rfl : nz = n2 := by have := LZ.out; omega
    have R2 := Lib.hid r2; clear l2 r2
    go_wp2_with fail
    refine (SFlexSizes_ans ys x B1 m1 d1 _ I1.out (by omega)).mono ?_
    rintro e w3 ⟨A3, n3, c3, rfl, l3, r3, N3a⟩
    have s3 := N3a.le
    have I1 := Lib.hid (I1.out.new N3a)
    have R2 := Lib.hid (R2.out.new N3a)
    have N3 := Lib.hid (N2.out.trans N3a); clear N3a
    obtain rfl : nz = n3 := by have := LZ.out; omega
    have R3 := Lib.hid r3; clear l3 r3
    go_wp2_with fail
    refine (equalInts_any _ _ nz nz _ _ _ _ (by omega) (by omega) _ (R2.out.ints LZ.out) (R3.out.ints LZ.out)).mono ?_
    (rw [decide_eq_true rfl]; rintro e w4 ⟨rfl, N4a⟩)
    have s4 := N4a.le
    have I1 := Lib.hid (I1.out.new N4a)
    have R2 := Lib.hid (R2.out.new N4a)
    have R3 := Lib.hid (R3.out.new N4a)
    have N4 := Lib.hid (N3.out.trans N4a); clear N4a
    have hok : flOkA m1 ys x = true := by
      have h := NE.out
      unfold flexA at h
      by_cases hk : flOkA m1 ys x = true
      · exact hk
      · rw [if_neg hk] at h; exact absurd rfl h
    have he : flexA m1 ys x = flexL m1 ys x := if_pos hok
    obtain ⟨hv, hs⟩ := flOkA_iff.1 hok
    have nm : nz = m1 := by have h1 := LZ.out; rw [he, flexL_len] at h1; omega
    subst nm
    have n8 := (flsB_iff.1 hv).1.2
    have ni8 : (nz : Int) ≤ 8 := by omega
    have HE := Lib.hid he; have HV := Lib.hid hv; have HS := Lib.hid hs
    clear hok he hv
    have bd : Hid (∀ i, i < nz → ys.getD (i * 5 + 1) 0 ≤ (flexA nz ys x).getD i 0 ∧ (flexA nz ys x).getD i 0 ≤ ys.getD (i * 5 + 2) 0) := Lib.hid (fun i hi => by rw [HE.out]; exact flexL_bd HV.out HS.out i hi)
    have side : (∀ i, i < nz → ¬ (flexA nz ys x).getD i 0 < ys.getD (i * 5) 0) ∨ (∀ i, i < nz → ¬ (flexA nz ys x).getD i 0 > ys.getD (i * 5) 0) := by
      rw [HE.out]
      by_cases hl : 0 ≤ x - (colL nz ys 0).sum
      · exact .inl (fun i hi => by have := (flex_grow HV.out HS.out hl).1 i hi; omega)
      · exact .inr (fun i hi => by have := (flex_shrink HV.out HS.out hl).1 i hi; omega)
    clear hs
    obtain ⟨b, off, rfl, hb, hc⟩ := I1.out.at_ (by omega)
    obtain ⟨b', off', rfl, hb', hc'⟩ := (R2.out.ints LZ.out).at_ (by omega)
    have HC := Lib.hid hc; have HC' := Lib.hid hc'
    have NN := Lib.hid N4.out
    clear hc hc'
    rcases side with side | side
    · have SD := Lib.hid side
      clear side
      go_wp2
      go_loopw [6, 7, 8] (fun m l i wr => ∃ (k : Nat) (bm : Bool), k ≤ nz ∧ m = .bool bm ∧ l = .bool false ∧ i = .int .i64 k ∧ ∃ q, wr = w4.drewN q) (fun _ _ i _ => nz - (intOf i).toNat)
      case atStart => exact ⟨0, false, Nat.zero_le _, rfl, rfl, rfl, 0, rfl⟩
      case round =>
        obtain ⟨k, bm, hk, rfl, rfl, rfl, q, rfl⟩ := hrel
        by_cases hlt : k < nz
        · have b0 := bd.out k hlt
          have sd := SD.out k hlt
          have go_ : w4.cell? ⟨b', off' + k, none⟩ = some (.int .i64 ((flexA nz ys x).getD k 0)) := HC'.out k hlt
          have g0 : w4.cell? ⟨b, off + k * 5, none⟩ = some (.int .i64 (ys.getD (k * 5) 0)) := HC.out (k * 5) (by omega)
          have g1 : w4.cell? ⟨b, off + k * 5 + 1, none⟩ = some (.int .i64 (ys.getD (k * 5 + 1) 0)) := HC.out (k * 5 + 1) (by omega)
          have g2 : w4.cell? ⟨b, off + k * 5 + 2, none⟩ = some (.int .i64 (ys.getD (k * 5 + 2) 0)) := HC.out (k * 5 + 2) (by omega)
          have k0 : (0 : Int) ≤ (k : Int) := by omega
          have k1 : (k : Int) < (nz : Int) := by omega
          generalize (flexA nz ys x).getD k 0 = o at *
          generalize ys.getD (k * 5) 0 = u0 at *
          generalize ys.getD (k * 5 + 1) 0 = u1 at *
          generalize ys.getD (k * 5 + 2) 0 = u2 at *
          have n1 : decide (o < u1) = false := decide_eq_false (by omega)
          have n2 : decide (u2 < o) = false := decide_eq_false (by omega)
          have nl : decide (o < u0) = false := decide_eq_false (by omega)
          clear sd b0
          cases bm
          · by_cases hd : u0 < o
            · skip
              go_wp2
              go_quiet (fail)
              go_wp2
              go_quiet (fail)
              go_wp2
              go_quiet (fail)
              go_wp2
              go_roundw
              case rel => exact ⟨k + 1, _, by omega, rfl, rfl, by go_num, _, rfl⟩
              case measure => simp [intOf]; omega
            · skip
              have dd : decide (u0 < o) = false := decide_eq_false hd
              clear hd
              go_wp2
              go_quiet (fail)
              go_wp2
              go_quiet (fail)
              go_wp2
              go_quiet (fail)
              go_wp2
              go_roundw
              case rel => exact ⟨k + 1, _, by omega, rfl, rfl, by go_num, _, rfl⟩
              case measure => simp [intOf]; omega
          · skip
            go_wp2
            go_quiet (fail)
            go_wp2
            go_quiet (fail)
            go_wp2
            go_quiet (fail)
            go_wp2
            go_roundw
            case rel => exact ⟨k + 1, _, by omega, rfl, rfl, by go_num, _, rfl⟩
            case measure => simp [intOf]; omega
        · obtain rfl : k = nz := by omega
          cases bm
          all_goals
            go_wp2
            go_ret
            exact ⟨rfl, NN.out.drewN q⟩
    · have SD := Lib.hid side
      clear side
      go_wp2
      go_loopw [6, 7, 8] (fun m l i wr => ∃ (k : Nat) (bm : Bool), k ≤ nz ∧ m = .bool false ∧ l = .bool bm ∧ i = .int .i64 k ∧ ∃ q, wr = w4.drewN q) (fun _ _ i _ => nz - (intOf i).toNat)
      case atStart => exact ⟨0, false, Nat.zero_le _, rfl, rfl, rfl, 0, rfl⟩
      case round =>
        obtain ⟨k, bm, hk, rfl, rfl, rfl, q, rfl⟩ := hrel
        by_cases hlt : k < nz
        · have b0 := bd.out k hlt
          have sd := SD.out k hlt
          have go_ : w4.cell? ⟨b', off' + k, none⟩ = some (.int .i64 ((flexA nz ys x).getD k 0)) := HC'.out k hlt
          have g0 : w4.cell? ⟨b, off + k * 5, none⟩ = some (.int .i64 (ys.getD (k * 5) 0)) := HC.out (k * 5) (by omega)
          have g1 : w4.cell? ⟨b, off + k * 5 + 1, none⟩ = some (.int .i64 (ys.getD (k * 5 + 1) 0)) := HC.out (k * 5 + 1) (by omega)
          have g2 : w4.cell? ⟨b, off + k * 5 + 2, none⟩ = some (.int .i64 (ys.getD (k * 5 + 2) 0)) := HC.out (k * 5 + 2) (by omega)
          have k0 : (0 : Int) ≤ (k : Int) := by omega
          have k1 : (k : Int) < (nz : Int) := by omega
          generalize (flexA nz ys x).getD k 0 = o at *
          generalize ys.getD (k * 5) 0 = u0 at *
          generalize ys.getD (k * 5 + 1) 0 = u1 at *
          generalize ys.getD (k * 5 + 2) 0 = u2 at *
          have n1 : decide (o < u1) = false := decide_eq_false (by omega)
          have n2 : decide (u2 < o) = false := decide_eq_false (by omega)
          have nl : decide (u0 < o) = false := decide_eq_false (by omega)
          clear sd b0
          cases bm
          · by_cases hd : o < u0
            · skip
              go_wp2
              go_quiet (fail)
              go_wp2
              go_quiet (fail)
              go_wp2
              go_quiet (fail)
              go_wp2
              go_roundw
              case rel => exact ⟨k + 1, _, by omega, rfl, rfl, by go_num, _, rfl⟩
              case measure => simp [intOf]; omega
            · skip
              have dd : decide (o < u0) = false := decide_eq_false hd
              clear hd
              go_wp2
              go_quiet (fail)
              go_wp2
              go_quiet (fail)
              go_wp2
              go_quiet (fail)
              go_wp2
              go_roundw
              case rel => exact ⟨k + 1, _, by omega, rfl, rfl, by go_num, _, rfl⟩
              case measure => simp [intOf]; omega
          · skip
            go_wp2
            go_quiet (fail)
            go_wp2
            go_quiet (fail)
            go_wp2
            go_quiet (fail)
            go_wp2
            go_roundw
            case rel => exact ⟨k + 1, _, by omega, rfl, rfl, by go_num, _, rfl⟩
            case measure => simp [intOf]; omega
        · obtain rfl : k = nz := by omega
          cases bm
          all_goals
            go_wp2
            go_ret
            exact ⟨rfl, NN.out.drewN q⟩
end Go.Proofs.Ythgfkdgdblfogaa
