/- The law FnOffsetsOfGap, walked: with a gap 1 greater each size begins later by its number. Condition: the code can be read. -/
import Derived.Test.YtcoddhlfhmelkaaDrawOf
import Derived.Test.YtcoddhlfhmelkaaOffsZ
namespace Go.Proofs.Ytcoddhlfhmelkaa
open Go.RowKit

set_option maxHeartbeats 4000000 in
theorem lawOffsetsOfGap (A : Option Addr) (n c : Nat) (hn : n ≤ maxLen) (hnc : n ≤ c) (w : World) (hb : Bytes w A n) :
    Calls Try.prog 6 #[.slice A n c] w fun e w' => e = .returned (.bool true) ∧ New w w' := by
  have HB := Lib.hid hb; have HM := Lib.hid hn
  clear hb
  unfold maxLen at hn
  by_cases hbig : 1048576 < n
  · go_enter Try.func6, Try.ntmps6
    go_wp2
    go_ret
    exact ⟨rfl, by (repeat (first | exact New.refl _ | assumption | refine New.alloc ?_ _ | refine New.drew ?_ | refine New.drewN ?_ _ | refine New.setCell ?_ (by first | omega | (simp; omega) | (simp; done)) _ | refine New.trans ?_ (by assumption)))⟩
  have hm : (n : Int) ≤ 1048576 := by omega
  have hm0 : (0 : Int) ≤ (n : Int) := by omega
  go_enter Try.func6, Try.ntmps6
  go_wp2_with fail
  refine (DrawOffsetsOf_any A n c HM.out hnc _ HB.out).mono ?_
  rintro e w1 ⟨B1, m1, d1, ys, sp, gp, ju, rfl, I1, l1, S1, sb, gb, jb, N1a⟩
  have s1 := N1a.le
  have N1 := Lib.hid ((New.refl w).trans N1a); clear N1a
  replace I1 := Lib.hid I1
  have LY := Lib.hid I1.out.len
  have y0 : (0 : Int) ≤ (m1 : Int) := by omega
  have y1 : (m1 : Int) ≤ 10 := by omega
  replace S1 := Lib.hid S1
  by_cases hz : offsA ys sp gp ju = []
  · have HZ := Lib.hid hz
    clear hz
    go_wp2_with fail
    refine (OffsetsOf_ans ys sp gp ju B1 m1 d1 _ I1.out (by omega)).mono ?_
    rintro e w2 ⟨A2, n2, c2, rfl, l2, r2, N2a⟩
    have s2 := N2a.le
    have I1 := Lib.hid (I1.out.new N2a)
    have N2 := Lib.hid (N1.out.trans N2a); clear N2a
    rw [HZ.out] at l2 r2
    obtain rfl : 0 = n2 := by simpa using l2
    have R2 := Lib.hid r2; clear l2 r2
    go_wp2_with fail
    refine (SOffsetsOf_ans ys sp gp ju B1 m1 d1 _ I1.out (by omega)).mono ?_
    rintro e w3 ⟨A3, n3, c3, rfl, l3, r3, N3a⟩
    have s3 := N3a.le
    have I1 := Lib.hid (I1.out.new N3a)
    have R2 := Lib.hid (R2.out.new N3a)
    have N3 := Lib.hid (N2.out.trans N3a); clear N3a
    rw [HZ.out] at l3 r3
    obtain rfl : 0 = n3 := by simpa using l3
    have R3 := Lib.hid r3; clear l3 r3
    go_wp2_with fail
    refine (equalInts_any _ _ 0 0 _ _ [] [] (by omega) (by omega) _ (R2.out.ints rfl) (R3.out.ints rfl)).mono ?_
    (rw [decide_eq_true rfl]; rintro e w4 ⟨rfl, N4a⟩)
    have s4 := N4a.le
    have I1 := Lib.hid (I1.out.new N4a)
    have R2 := Lib.hid (R2.out.new N4a)
    have R3 := Lib.hid (R3.out.new N4a)
    have N4 := Lib.hid (N3.out.trans N4a); clear N4a
    go_wp2_with fail
    refine (SOffsetsOf_ans ys sp gp ju B1 m1 d1 _ I1.out (by omega)).mono ?_
    rintro e w5 ⟨A5, n5, c5, rfl, l5, r5, N5a⟩
    have s5 := N5a.le
    have I1 := Lib.hid (I1.out.new N5a)
    have R2 := Lib.hid (R2.out.new N5a)
    have R3 := Lib.hid (R3.out.new N5a)
    have N5 := Lib.hid (N4.out.trans N5a); clear N5a
    rw [HZ.out] at l5 r5
    obtain rfl : 0 = n5 := by simpa using l5
    have R5 := Lib.hid r5; clear l5 r5
    go_wp2_with fail
    refine (equalInts_any _ _ 0 0 _ _ [] [] (by omega) (by omega) _ (R2.out.ints rfl) (R5.out.ints rfl)).mono ?_
    (rw [decide_eq_true rfl]; rintro e w6 ⟨rfl, N6a⟩)
    have s6 := N6a.le
    have I1 := Lib.hid (I1.out.new N6a)
    have R2 := Lib.hid (R2.out.new N6a)
    have R3 := Lib.hid (R3.out.new N6a)
    have R5 := Lib.hid (R5.out.new N6a)
    have N6 := Lib.hid (N5.out.trans N6a); clear N6a
    go_wp2
    go_ret
    exact ⟨rfl, N6.out⟩
  · have zp : 0 < (offsA ys sp gp ju).length := List.length_pos_iff.2 hz
    have zc := offsA_len ys sp gp ju
    obtain ⟨nz, LZ⟩ : ∃ nz, Hid ((offsA ys sp gp ju).length = nz) := ⟨_, Lib.hid rfl⟩
    have z1 : 1 ≤ nz := by have := LZ.out; omega
    have z8 : nz ≤ 1048576 := by have := LZ.out; omega
    have zi : (1 : Int) ≤ (nz : Int) := by omega
    have zj : (nz : Int) ≤ 1048576 := by omega
    have zb : ((nz : Int) == 0) = false := by simp; omega
    have NE := Lib.hid hz
    clear hz zp zc
    go_wp2_with fail
    refine (OffsetsOf_ans ys sp gp ju B1 m1 d1 _ I1.out (by omega)).mono ?_
    rintro e w2 ⟨A2, n2, c2, rfl, l2, r2, N2a⟩
    have s2 := N2a.le
    have I1 := Lib.hid (I1.out.new N2a)
    have N2 := Lib.hid (N1.out.trans N2a); clear N2a
    obtain rfl : nz = n2 := by have := LZ.out; omega
    have R2 := Lib.hid r2; clear l2 r2
    go_wp2_with fail
    refine (SOffsetsOf_ans ys sp gp ju B1 m1 d1 _ I1.out (by omega)).mono ?_
    rintro e w3 ⟨A3, n3, c3, rfl, l3, r3, N3a⟩
    have s3 := N3a.le
    have I1 := Lib.hid (I1.out.new N3a)
    have R2 := Lib.hid (R2.out.new N3a)
    have N3 := Lib.hid (N2.out.trans N3a); clear N3a
    obtain rfl : nz = n3 := by have := LZ.out; omega
    have R3 := Lib.hid r3; clear l3 r3
    go_wp2_with fail
    refine (equalInts_any _ _ nz nz _ _ _ _ (by omega) (by omega) _ (R2.out.ints LZ.out) (R3.out.ints LZ.out)).mono ?_
    (rw [decide_eq_true rfl]; rintro e w4 ⟨rfl, N4a⟩)
    have s4 := N4a.le
    have I1 := Lib.hid (I1.out.new N4a)
    have R2 := Lib.hid (R2.out.new N4a)
    have R3 := Lib.hid (R3.out.new N4a)
    have N4 := Lib.hid (N3.out.trans N4a); clear N4a
    have hok : ofOk ys sp gp ju = true := by
      have h := NE.out
      unfold offsA at h
      by_cases hk : ofOk ys sp gp ju = true
      · exact hk
      · rw [if_neg hk] at h; exact absurd rfl h
    obtain ⟨hr, hsp, hgp, hju⟩ := ofOk_iff.1 hok
    have he : offsA ys sp gp ju = offsL gp (frontL (leftA ys sp gp) ys.length ju) ys := by unfold offsA; rw [if_pos hok]
    obtain ⟨n1, n8⟩ := rowB_len hr
    have hszd : ∀ i, 0 ≤ ys.getD i 0 ∧ ys.getD i 0 ≤ 10000 := fun i => getD_of_mem ⟨by omega, by omega⟩ (rowB_iff.1 hr).2 i
    have s0 := sum_nonneg (xs := ys) fun z hz => ((rowB_iff.1 hr).2 z hz).1
    have lb := leftA_bd ys sp gp s0 hsp (prod_gap (g := gp) (n := (ys.length : Int) - 1) hgp (by omega)).1
    have fb := frontL_bd (leftA ys sp gp) ys.length ju lb ⟨n1, n8⟩
    have eb := end_bd gp (frontL (leftA ys sp gp) ys.length ju) ys hgp fb hszd
    have nm : nz = m1 := by have h1 := LZ.out; have h2 := LY.out; rw [he, offsL_len] at h1; omega
    have HE := Lib.hid he; have SD := Lib.hid hszd; have FB := Lib.hid fb; have EB := Lib.hid eb
    subst nm
    by_cases h50 : gp = 50
    · subst h50
      clear hok hr hju he n1 n8 hszd s0 lb fb eb
      go_wp2_with fail
      refine (SOffsetsOf_ans ys sp 50 ju B1 nz d1 _ I1.out (by omega)).mono ?_
      rintro e w5 ⟨A5, n5, c5, rfl, l5, r5, N5a⟩
      have s5 := N5a.le
      have I1 := Lib.hid (I1.out.new N5a)
      have R2 := Lib.hid (R2.out.new N5a)
      have R3 := Lib.hid (R3.out.new N5a)
      have N5 := Lib.hid (N4.out.trans N5a); clear N5a
      obtain rfl : nz = n5 := by have := LZ.out; omega
      have R5 := Lib.hid r5; clear l5 r5
      go_wp2_with fail
      refine (equalInts_any _ _ nz nz _ _ _ _ (by omega) (by omega) _ (R2.out.ints LZ.out) (R5.out.ints LZ.out)).mono ?_
      (rw [decide_eq_true rfl]; rintro e w6 ⟨rfl, N6a⟩)
      have s6 := N6a.le
      have I1 := Lib.hid (I1.out.new N6a)
      have R2 := Lib.hid (R2.out.new N6a)
      have R3 := Lib.hid (R3.out.new N6a)
      have R5 := Lib.hid (R5.out.new N6a)
      have N6 := Lib.hid (N5.out.trans N6a); clear N6a
      go_wp2
      go_ret
      exact ⟨rfl, N6.out⟩
    · have hgb : (gp == 50) = false := by simpa using h50
      have front0 : ∀ s : Int, frontL s ys.length 0 = List.replicate ys.length 0 := fun s => by
        unfold frontL
        rw [if_neg (by omega), if_neg (by omega), if_neg (by omega)]
      have ea : offsA ys sp gp 0 = offsL gp (List.replicate ys.length 0) ys := by
        unfold offsA
        rw [if_pos (ofOk_iff.2 ⟨hr, hsp, hgp, by omega⟩), front0]
      have eb' : offsA ys sp (gp + 1) 0 = offsL (gp + 1) (List.replicate ys.length 0) ys := by
        unfold offsA
        rw [if_pos (ofOk_iff.2 ⟨hr, hsp, by omega, by omega⟩), front0]
      have la : (offsA ys sp gp 0).length = nz := by rw [ea, offsL_len]; exact LY.out
      have lbb : (offsA ys sp (gp + 1) 0).length = nz := by rw [eb', offsL_len]; exact LY.out
      have more : ∀ i, endAt (gp + 1) (List.replicate ys.length 0) ys i = endAt gp (List.replicate ys.length 0) ys i + (i : Int) := fun i => by
        induction i with
        | zero => simp [endAt]
        | succ i ih =>
          have e1 : endAt (gp + 1) (List.replicate ys.length 0) ys (i + 1) = (List.replicate ys.length (0 : Int)).getD i 0 + endAt (gp + 1) (List.replicate ys.length 0) ys i + ys.getD i 0 + (gp + 1) := rfl
          have e2 : endAt gp (List.replicate ys.length 0) ys (i + 1) = (List.replicate ys.length (0 : Int)).getD i 0 + endAt gp (List.replicate ys.length 0) ys i + ys.getD i 0 + gp := rfl
          rw [e1, e2, ih]
          omega
      have rel : Hid (∀ i, i < nz → (offsA ys sp (gp + 1) 0).getD i 0 = (offsA ys sp gp 0).getD i 0 + (i : Int) ∧ 0 ≤ (offsA ys sp gp 0).getD i 0 ∧ (offsA ys sp gp 0).getD i 0 ≤ 10000000) := Lib.hid (fun i hi => by
        have hl : i < ys.length := by rw [LY.out]; exact hi
        rw [ea, eb', offsL_at _ _ _ _ hl, offsL_at _ _ _ _ hl]
        unfold offAt
        rw [more i, zero_at]
        have h2 := end_bd gp (List.replicate ys.length 0) ys hgp (fun i => by rw [zero_at]; omega) SD.out i
        omega)
      have LA := Lib.hid la; have LBB := Lib.hid lbb
      have g1 : (0 : Int) ≤ gp := hgp.1
      have g2 : gp ≤ 50 := hgp.2
      clear hok hr hju he n1 n8 hszd s0 lb fb eb front0 ea eb' la lbb more hgp hsp h50
      go_wp2_with fail
      refine (OffsetsOf_ans ys sp gp 0 B1 nz d1 _ I1.out (by omega)).mono ?_
      rintro e w5 ⟨A5, n5, c5, rfl, l5, r5, N5a⟩
      have s5 := N5a.le
      have I1 := Lib.hid (I1.out.new N5a)
      have R2 := Lib.hid (R2.out.new N5a)
      have R3 := Lib.hid (R3.out.new N5a)
      have N5 := Lib.hid (N4.out.trans N5a); clear N5a
      obtain rfl : nz = n5 := by have := LA.out; omega
      have R5 := Lib.hid r5; clear l5 r5
      go_wp2_with fail
      refine (OffsetsOf_ans ys sp (gp + 1) 0 B1 nz d1 _ I1.out (by omega)).mono ?_
      rintro e w6 ⟨A6, n6, c6, rfl, l6, r6, N6a⟩
      have s6 := N6a.le
      have I1 := Lib.hid (I1.out.new N6a)
      have R2 := Lib.hid (R2.out.new N6a)
      have R3 := Lib.hid (R3.out.new N6a)
      have R5 := Lib.hid (R5.out.new N6a)
      have N6 := Lib.hid (N5.out.trans N6a); clear N6a
      obtain rfl : nz = n6 := by have := LBB.out; omega
      have R6 := Lib.hid r6; clear l6 r6
      obtain ⟨b, off, rfl, hb, hc⟩ := (R5.out.ints LA.out).at_ (by omega)
      obtain ⟨b', off', rfl, hb', hc'⟩ := (R6.out.ints LBB.out).at_ (by omega)
      have HC := Lib.hid hc; have HC' := Lib.hid hc'
      have NN := Lib.hid N6.out
      clear hc hc'
      go_wp2
      go_loopw [10] (fun i wr => ∃ j : Nat, j ≤ nz ∧ i = .int .i64 j ∧ ∃ q, wr = w6.drewN q) (fun i _ => nz - (intOf i).toNat)
      case atStart => exact ⟨0, Nat.zero_le _, rfl, 0, rfl⟩
      case round =>
        obtain ⟨j, hj, rfl, q, rfl⟩ := hrel
        by_cases hlt : j < nz
        · have g1 : w6.cell? ⟨b, off + j, none⟩ = some (.int .i64 ((offsA ys sp gp 0).getD j 0)) := HC.out j hlt
          have g2 : w6.cell? ⟨b', off' + j, none⟩ = some (.int .i64 ((offsA ys sp (gp + 1) 0).getD j 0)) := HC'.out j hlt
          obtain ⟨e1, e2, e3⟩ := rel.out j hlt
          rw [e1] at g2
          have j0 : (0 : Int) ≤ (j : Int) := by omega
          have j1 : (j : Int) < (nz : Int) := by omega
          clear e1
          generalize (offsA ys sp gp 0).getD j 0 = u at *
          have s1 : IntKind.i64.wrap (u + (j : Int)) = u + (j : Int) := IntWalk.i64_in _ (by omega)
          have nd : decide ((nz : Int) ≤ (j : Int)) = false := decide_eq_false (by omega)
          go_wp2
          go_quiet (fail)
          go_wp2
          go_roundw
          case rel => exact ⟨j + 1, by omega, by go_num, _, rfl⟩
          case measure => simp [intOf]; omega
        · obtain rfl : nz = j := by omega
          go_wp2
          go_ret
          exact ⟨rfl, NN.out.drewN q⟩
end Go.Proofs.Ytcoddhlfhmelkaa
