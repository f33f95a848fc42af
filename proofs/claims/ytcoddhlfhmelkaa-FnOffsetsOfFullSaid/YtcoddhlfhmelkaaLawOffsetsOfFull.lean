/- The law FnOffsetsOfFull, walked: sizes that leave no room begin at the same places for all ways to justify. Condition: the code can be read. -/
import Derived.Test.YtcoddhlfhmelkaaDrawOf
import Derived.Test.YtcoddhlfhmelkaaOffsZ
import Derived.Test.YtcoddhlfhmelkaaOffsE
namespace Go.Proofs.Ytcoddhlfhmelkaa
open Go.RowKit

set_option maxHeartbeats 4000000 in
theorem lawOffsetsOfFull (A : Option Addr) (n c : Nat) (hn : n ≤ maxLen) (hnc : n ≤ c) (w : World) (hb : Bytes w A n) :
    Calls Try.prog 5 #[.slice A n c] w fun e w' => e = .returned (.bool true) ∧ New w w' := by
  have HB := Lib.hid hb; have HM := Lib.hid hn
  clear hb
  unfold maxLen at hn
  by_cases hbig : 1048576 < n
  · go_enter Try.func5, Try.ntmps5
    go_wp2
    go_ret
    exact ⟨rfl, by (repeat (first | exact New.refl _ | assumption | refine New.alloc ?_ _ | refine New.drew ?_ | refine New.drewN ?_ _ | refine New.setCell ?_ (by first | omega | (simp; omega) | (simp; done)) _ | refine New.trans ?_ (by assumption)))⟩
  have hm : (n : Int) ≤ 1048576 := by omega
  have hm0 : (0 : Int) ≤ (n : Int) := by omega
  go_enter Try.func5, Try.ntmps5
  go_wp2_with fail
  refine (DrawOffsetsOf_any A n c HM.out hnc _ HB.out).mono ?_
  rintro e w1 ⟨B1, m1, d1, ys, sp, gp, ju, rfl, I1, l1, S1, sb, gb, jb, N1a⟩
  have s1 := N1a.le
  have N1 := Lib.hid ((New.refl w).trans N1a); clear N1a
  replace I1 := Lib.hid I1
  have LY := Lib.hid I1.out.len
  have y0 : (0 : Int) ≤ (m1 : Int) := by omega
  have y1 : (m1 : Int) ≤ 10 := by omega
  replace S1 := Lib.hid S1
  by_cases hz : offsA ys sp gp ju = []
  · have HZ := Lib.hid hz
    clear hz
    go_wp2_with fail
    refine (OffsetsOf_ans ys sp gp ju B1 m1 d1 _ I1.out (by omega)).mono ?_
    rintro e w2 ⟨A2, n2, c2, rfl, l2, r2, N2a⟩
    have s2 := N2a.le
    have I1 := Lib.hid (I1.out.new N2a)
    have N2 := Lib.hid (N1.out.trans N2a); clear N2a
    rw [HZ.out] at l2 r2
    obtain rfl : 0 = n2 := by simpa using l2
    have R2 := Lib.hid r2; clear l2 r2
    go_wp2_with fail
    refine (SOffsetsOf_ans ys sp gp ju B1 m1 d1 _ I1.out (by omega)).mono ?_
    rintro e w3 ⟨A3, n3, c3, rfl, l3, r3, N3a⟩
    have s3 := N3a.le
    have I1 := Lib.hid (I1.out.new N3a)
    have R2 := Lib.hid (R2.out.new N3a)
    have N3 := Lib.hid (N2.out.trans N3a); clear N3a
    rw [HZ.out] at l3 r3
    obtain rfl : 0 = n3 := by simpa using l3
    have R3 := Lib.hid r3; clear l3 r3
    go_wp2_with fail
    refine (equalInts_any _ _ 0 0 _ _ [] [] (by omega) (by omega) _ (R2.out.ints rfl) (R3.out.ints rfl)).mono ?_
    (rw [decide_eq_true rfl]; rintro e w4 ⟨rfl, N4a⟩)
    have s4 := N4a.le
    have I1 := Lib.hid (I1.out.new N4a)
    have R2 := Lib.hid (R2.out.new N4a)
    have R3 := Lib.hid (R3.out.new N4a)
    have N4 := Lib.hid (N3.out.trans N4a); clear N4a
    go_wp2_with fail
    refine (SOffsetsOf_ans ys sp gp ju B1 m1 d1 _ I1.out (by omega)).mono ?_
    rintro e w5 ⟨A5, n5, c5, rfl, l5, r5, N5a⟩
    have s5 := N5a.le
    have I1 := Lib.hid (I1.out.new N5a)
    have R2 := Lib.hid (R2.out.new N5a)
    have R3 := Lib.hid (R3.out.new N5a)
    have N5 := Lib.hid (N4.out.trans N5a); clear N5a
    rw [HZ.out] at l5 r5
    obtain rfl : 0 = n5 := by simpa using l5
    have R5 := Lib.hid r5; clear l5 r5
    go_wp2_with fail
    refine (equalInts_any _ _ 0 0 _ _ [] [] (by omega) (by omega) _ (R2.out.ints rfl) (R5.out.ints rfl)).mono ?_
    (rw [decide_eq_true rfl]; rintro e w6 ⟨rfl, N6a⟩)
    have s6 := N6a.le
    have I1 := Lib.hid (I1.out.new N6a)
    have R2 := Lib.hid (R2.out.new N6a)
    have R3 := Lib.hid (R3.out.new N6a)
    have R5 := Lib.hid (R5.out.new N6a)
    have N6 := Lib.hid (N5.out.trans N6a); clear N6a
    go_wp2
    go_ret
    exact ⟨rfl, N6.out⟩
  · have zp : 0 < (offsA ys sp gp ju).length := List.length_pos_iff.2 hz
    have zc := offsA_len ys sp gp ju
    obtain ⟨nz, LZ⟩ : ∃ nz, Hid ((offsA ys sp gp ju).length = nz) := ⟨_, Lib.hid rfl⟩
    have z1 : 1 ≤ nz := by have := LZ.out; omega
    have z8 : nz ≤ 1048576 := by have := LZ.out; omega
    have zi : (1 : Int) ≤ (nz : Int) := by omega
    have zj : (nz : Int) ≤ 1048576 := by omega
    have zb : ((nz : Int) == 0) = false := by simp; omega
    have NE := Lib.hid hz
    clear hz zp zc
    go_wp2_with fail
    refine (OffsetsOf_ans ys sp gp ju B1 m1 d1 _ I1.out (by omega)).mono ?_
    rintro e w2 ⟨A2, n2, c2, rfl, l2, r2, N2a⟩
    have s2 := N2a.le
    have I1 := Lib.hid (I1.out.new N2a)
    have N2 := Lib.hid (N1.out.trans N2a); clear N2a
    obtain rfl : nz = n2 := by have := LZ.out; omega
    have R2 := Lib.hid r2; clear l2 r2
    go_wp2_with fail
    refine (SOffsetsOf_ans ys sp gp ju B1 m1 d1 _ I1.out (by omega)).mono ?_
    rintro e w3 ⟨A3, n3, c3, rfl, l3, r3, N3a⟩
    have s3 := N3a.le
    have I1 := Lib.hid (I1.out.new N3a)
    have R2 := Lib.hid (R2.out.new N3a)
    have N3 := Lib.hid (N2.out.trans N3a); clear N3a
    obtain rfl : nz = n3 := by have := LZ.out; omega
    have R3 := Lib.hid r3; clear l3 r3
    go_wp2_with fail
    refine (equalInts_any _ _ nz nz _ _ _ _ (by omega) (by omega) _ (R2.out.ints LZ.out) (R3.out.ints LZ.out)).mono ?_
    (rw [decide_eq_true rfl]; rintro e w4 ⟨rfl, N4a⟩)
    have s4 := N4a.le
    have I1 := Lib.hid (I1.out.new N4a)
    have R2 := Lib.hid (R2.out.new N4a)
    have R3 := Lib.hid (R3.out.new N4a)
    have N4 := Lib.hid (N3.out.trans N4a); clear N4a
    have hok : ofOk ys sp gp ju = true := by
      have h := NE.out
      unfold offsA at h
      by_cases hk : ofOk ys sp gp ju = true
      · exact hk
      · rw [if_neg hk] at h; exact absurd rfl h
    obtain ⟨hr, hsp, hgp, hju⟩ := ofOk_iff.1 hok
    have he : offsA ys sp gp ju = offsL gp (frontL (leftA ys sp gp) ys.length ju) ys := by unfold offsA; rw [if_pos hok]
    obtain ⟨n1, n8⟩ := rowB_len hr
    have hszd : ∀ i, 0 ≤ ys.getD i 0 ∧ ys.getD i 0 ≤ 10000 := fun i => getD_of_mem ⟨by omega, by omega⟩ (rowB_iff.1 hr).2 i
    have s0 := sum_nonneg (xs := ys) fun z hz => ((rowB_iff.1 hr).2 z hz).1
    have lb := leftA_bd ys sp gp s0 hsp (prod_gap (g := gp) (n := (ys.length : Int) - 1) hgp (by omega)).1
    have fb := frontL_bd (leftA ys sp gp) ys.length ju lb ⟨n1, n8⟩
    have eb := end_bd gp (frontL (leftA ys sp gp) ys.length ju) ys hgp fb hszd
    have nm : nz = m1 := by have h1 := LZ.out; have h2 := LY.out; rw [he, offsL_len] at h1; omega
    have HE := Lib.hid he; have SD := Lib.hid hszd; have FB := Lib.hid fb; have EB := Lib.hid eb
    subst nm
    have pg := prod_gap (g := gp) (n := (ys.length : Int) - 1) hgp (by omega)
    have sB := sum_bd (xs := ys) (fun z hz => by have := (rowB_iff.1 hr).2 z hz; omega) nz
    rw [List.take_of_length_le (by have := LY.out; omega)] at sB
    have su : ys.sum ≤ 80000 := by
      have h := sum_le8 (xs := ys) (M := 10000) (fun z hz => ((rowB_iff.1 hr).2 z hz).2)
      omega
    have hm1 : gp * ((ys.length : Int) - 1) = gp * ((nz : Int) - 1) := by rw [LY.out]
    rw [hm1] at pg
    have hfull : ∀ q, 0 ≤ q ∧ q ≤ 3 → offsA ys (ys.sum + gp * ((nz : Int) - 1)) gp q = offsL gp (List.replicate ys.length 0) ys := fun q hq => by
      unfold offsA
      rw [if_pos (ofOk_iff.2 ⟨hr, by omega, hgp, hq⟩)]
      have e : leftA ys (ys.sum + gp * ((nz : Int) - 1)) gp = 0 := by
        unfold leftA mx
        rw [hm1]
        omega
      rw [e, frontL_none _ _ ⟨n1, n8⟩]
    have f1 := Lib.hid (hfull ju hju)
    have f2 := Lib.hid (hfull 0 (by omega))
    have LF : Hid ((offsL gp (List.replicate ys.length 0) ys).length = nz) := Lib.hid ((offsL_len _ _ _).trans LY.out)
    have SMH : Hid (Sml ys) := S1
    obtain ⟨pg0, pg1⟩ := pg
    obtain ⟨gp0, gp1⟩ := hgp
    have z8' : (nz : Int) ≤ 8 := by have := LY.out; omega
    clear hok hr hju he hszd lb fb eb hm1 hfull hsp sB
    generalize offsL gp (List.replicate ys.length 0) ys = ZF at *
    generalize hS : ys.sum = S at *
    have HS := Lib.hid hS
    clear hS
    go_wp2_with fail
    refine (lsum_any B1 nz d1 ys (by omega) _ I1.out SMH.out).mono ?_
    rw [HS.out]
    rintro e w' ⟨rfl, rfl⟩
    go_wp2_with fail
    refine (OffsetsOf_ans ys (S + gp * ((nz : Int) - 1)) gp ju B1 nz d1 _ I1.out (by omega)).mono ?_
    rw [f1.out]
    rintro e w5 ⟨A5, n5, c5, rfl, l5, r5, N5a⟩
    have s5 := N5a.le
    have I1 := Lib.hid (I1.out.new N5a)
    have R2 := Lib.hid (R2.out.new N5a)
    have R3 := Lib.hid (R3.out.new N5a)
    have N5 := Lib.hid (N4.out.trans N5a); clear N5a
    obtain rfl : nz = n5 := by have := LF.out; omega
    have R5 := Lib.hid r5; clear l5 r5
    go_wp2_with fail
    refine (OffsetsOf_ans ys (S + gp * ((nz : Int) - 1)) gp 0 B1 nz d1 _ I1.out (by omega)).mono ?_
    rw [f2.out]
    rintro e w6 ⟨A6, n6, c6, rfl, l6, r6, N6a⟩
    have s6 := N6a.le
    have I1 := Lib.hid (I1.out.new N6a)
    have R2 := Lib.hid (R2.out.new N6a)
    have R3 := Lib.hid (R3.out.new N6a)
    have R5 := Lib.hid (R5.out.new N6a)
    have N6 := Lib.hid (N5.out.trans N6a); clear N6a
    obtain rfl : nz = n6 := by have := LF.out; omega
    have R6 := Lib.hid r6; clear l6 r6
    go_wp2_with fail
    refine (equalInts_any _ _ nz nz _ _ _ _ (by omega) (by omega) _ (R5.out.ints LF.out) (R6.out.ints LF.out)).mono ?_
    (rw [decide_eq_true rfl]; rintro e w7 ⟨rfl, N7a⟩)
    have s7 := N7a.le
    have I1 := Lib.hid (I1.out.new N7a)
    have R2 := Lib.hid (R2.out.new N7a)
    have R3 := Lib.hid (R3.out.new N7a)
    have R5 := Lib.hid (R5.out.new N7a)
    have R6 := Lib.hid (R6.out.new N7a)
    have N7 := Lib.hid (N6.out.trans N7a); clear N7a
    go_wp2
    go_ret
    exact ⟨rfl, N7.out⟩
end Go.Proofs.Ytcoddhlfhmelkaa
