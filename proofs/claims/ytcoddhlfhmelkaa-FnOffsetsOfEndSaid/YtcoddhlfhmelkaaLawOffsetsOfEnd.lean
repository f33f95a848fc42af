/- The law FnOffsetsOfEnd, walked: the first size begins and the last one ends as the way to justify says. Condition: the code can be read. -/
import Derived.Test.YtcoddhlfhmelkaaDrawOf
import Derived.Test.YtcoddhlfhmelkaaOffsZ
import Derived.Test.YtcoddhlfhmelkaaOffsE
namespace Go.Proofs.Ytcoddhlfhmelkaa
open Go.RowKit

set_option maxRecDepth 100000 in
set_option maxHeartbeats 4000000 in
theorem lawOffsetsOfEnd (A : Option Addr) (n c : Nat) (hn : n ≤ maxLen) (hnc : n ≤ c) (w : World) (hb : Bytes w A n) :
    Calls Try.prog 4 #[.slice A n c] w fun e w' => e = .returned (.bool true) ∧ New w w' := by
  have HB := Lib.hid hb; have HM := Lib.hid hn
  clear hb
  unfold maxLen at hn
  by_cases hbig : 1048576 < n
  · go_enter Try.func4, Try.ntmps4
    go_wp2
    go_ret
    exact ⟨rfl, by (repeat (first | exact New.refl _ | assumption | refine New.alloc ?_ _ | refine New.drew ?_ | refine New.drewN ?_ _ | refine New.setCell ?_ (by first | omega | (simp; omega) | (simp; done)) _ | refine New.trans ?_ (by assumption)))⟩
  have hm : (n : Int) ≤ 1048576 := by omega
  have hm0 : (0 : Int) ≤ (n : Int) := by omega
  go_enter Try.func4, Try.ntmps4
  go_wp2_with fail
  refine (DrawOffsetsOf_any A n c HM.out hnc _ HB.out).mono ?_
  rintro e w1 ⟨B1, m1, d1, ys, sp, gp, ju, rfl, I1, l1, S1, sb, gb, jb, N1a⟩
  have s1 := N1a.le
  have N1 := Lib.hid ((New.refl w).trans N1a); clear N1a
  replace I1 := Lib.hid I1
  have LY := Lib.hid I1.out.len
  have y0 : (0 : Int) ≤ (m1 : Int) := by omega
  have y1 : (m1 : Int) ≤ 10 := by omega
  replace S1 := Lib.hid S1
  by_cases hz : offsA ys sp gp ju = []
  · have HZ := Lib.hid hz
    clear hz
    go_wp2_with fail
    refine (OffsetsOf_ans ys sp gp ju B1 m1 d1 _ I1.out (by omega)).mono ?_
    rintro e w2 ⟨A2, n2, c2, rfl, l2, r2, N2a⟩
    have s2 := N2a.le
    have I1 := Lib.hid (I1.out.new N2a)
    have N2 := Lib.hid (N1.out.trans N2a); clear N2a
    rw [HZ.out] at l2 r2
    obtain rfl : 0 = n2 := by simpa using l2
    have R2 := Lib.hid r2; clear l2 r2
    go_wp2_with fail
    refine (SOffsetsOf_ans ys sp gp ju B1 m1 d1 _ I1.out (by omega)).mono ?_
    rintro e w3 ⟨A3, n3, c3, rfl, l3, r3, N3a⟩
    have s3 := N3a.le
    have I1 := Lib.hid (I1.out.new N3a)
    have R2 := Lib.hid (R2.out.new N3a)
    have N3 := Lib.hid (N2.out.trans N3a); clear N3a
    rw [HZ.out] at l3 r3
    obtain rfl : 0 = n3 := by simpa using l3
    have R3 := Lib.hid r3; clear l3 r3
    go_wp2_with fail
    refine (equalInts_any _ _ 0 0 _ _ [] [] (by omega) (by omega) _ (R2.out.ints rfl) (R3.out.ints rfl)).mono ?_
    (rw [decide_eq_true rfl]; rintro e w4 ⟨rfl, N4a⟩)
    have s4 := N4a.le
    have I1 := Lib.hid (I1.out.new N4a)
    have R2 := Lib.hid (R2.out.new N4a)
    have R3 := Lib.hid (R3.out.new N4a)
    have N4 := Lib.hid (N3.out.trans N4a); clear N4a
    go_wp2_with fail
    refine (SOffsetsOf_ans ys sp gp ju B1 m1 d1 _ I1.out (by omega)).mono ?_
    rintro e w5 ⟨A5, n5, c5, rfl, l5, r5, N5a⟩
    have s5 := N5a.le
    have I1 := Lib.hid (I1.out.new N5a)
    have R2 := Lib.hid (R2.out.new N5a)
    have R3 := Lib.hid (R3.out.new N5a)
    have N5 := Lib.hid (N4.out.trans N5a); clear N5a
    rw [HZ.out] at l5 r5
    obtain rfl : 0 = n5 := by simpa using l5
    have R5 := Lib.hid r5; clear l5 r5
    go_wp2_with fail
    refine (equalInts_any _ _ 0 0 _ _ [] [] (by omega) (by omega) _ (R2.out.ints rfl) (R5.out.ints rfl)).mono ?_
    (rw [decide_eq_true rfl]; rintro e w6 ⟨rfl, N6a⟩)
    have s6 := N6a.le
    have I1 := Lib.hid (I1.out.new N6a)
    have R2 := Lib.hid (R2.out.new N6a)
    have R3 := Lib.hid (R3.out.new N6a)
    have R5 := Lib.hid (R5.out.new N6a)
    have N6 := Lib.hid (N5.out.trans N6a); clear N6a
    go_wp2
    go_ret
    exact ⟨rfl, N6.out⟩
  · have zp : 0 < (offsA ys sp gp ju).length := List.length_pos_iff.2 hz
    have zc := offsA_len ys sp gp ju
    obtain ⟨nz, LZ⟩ : ∃ nz, Hid ((offsA ys sp gp ju).length = nz) := ⟨_, Lib.hid rfl⟩
    have z1 : 1 ≤ nz := by have := LZ.out; omega
    have z8 : nz ≤ 1048576 := by have := LZ.out; omega
    have zi : (1 : Int) ≤ (nz : Int) := by omega
    have zj : (nz : Int) ≤ 1048576 := by omega
    have zb : ((nz : Int) == 0) = false := by simp; omega
    have NE := Lib.hid hz
    clear hz zp zc
    go_wp2_with fail
    refine (OffsetsOf_ans ys sp gp ju B1 m1 d1 _ I1.out (by omega)).mono ?_
    rintro e w2 ⟨A2, n2, c2, rfl, l2, r2, N2a⟩
    have s2 := N2a.le
    have I1 := Lib.hid (I1.out.new N2a)
    have N2 := Lib.hid (N1.out.trans N2a); clear N2a
    obtain rfl : nz = n2 := by have := LZ.out; omega
    have R2 := Lib.hid r2; clear l2 r2
    go_wp2_with fail
    refine (SOffsetsOf_ans ys sp gp ju B1 m1 d1 _ I1.out (by omega)).mono ?_
    rintro e w3 ⟨A3, n3, c3, rfl, l3, r3, N3a⟩
    have s3 := N3a.le
    have I1 := Lib.hid (I1.out.new N3a)
    have R2 := Lib.hid (R2.out.new N3a)
    have N3 := Lib.hid (N2.out.trans N3a); clear N3a
    obtain rfl : nz = n3 := by have := LZ.out; omega
    have R3 := Lib.hid r3; clear l3 r3
    go_wp2_with fail
    refine (equalInts_any _ _ nz nz _ _ _ _ (by omega) (by omega) _ (R2.out.ints LZ.out) (R3.out.ints LZ.out)).mono ?_
    (rw [decide_eq_true rfl]; rintro e w4 ⟨rfl, N4a⟩)
    have s4 := N4a.le
    have I1 := Lib.hid (I1.out.new N4a)
    have R2 := Lib.hid (R2.out.new N4a)
    have R3 := Lib.hid (R3.out.new N4a)
    have N4 := Lib.hid (N3.out.trans N4a); clear N4a
    have hok : ofOk ys sp gp ju = true := by
      have h := NE.out
      unfold offsA at h
      by_cases hk : ofOk ys sp gp ju = true
      · exact hk
      · rw [if_neg hk] at h; exact absurd rfl h
    obtain ⟨hr, hsp, hgp, hju⟩ := ofOk_iff.1 hok
    have he : offsA ys sp gp ju = offsL gp (frontL (leftA ys sp gp) ys.length ju) ys := by unfold offsA; rw [if_pos hok]
    obtain ⟨n1, n8⟩ := rowB_len hr
    have hszd : ∀ i, 0 ≤ ys.getD i 0 ∧ ys.getD i 0 ≤ 10000 := fun i => getD_of_mem ⟨by omega, by omega⟩ (rowB_iff.1 hr).2 i
    have s0 := sum_nonneg (xs := ys) fun z hz => ((rowB_iff.1 hr).2 z hz).1
    have lb := leftA_bd ys sp gp s0 hsp (prod_gap (g := gp) (n := (ys.length : Int) - 1) hgp (by omega)).1
    have fb := frontL_bd (leftA ys sp gp) ys.length ju lb ⟨n1, n8⟩
    have eb := end_bd gp (frontL (leftA ys sp gp) ys.length ju) ys hgp fb hszd
    have nm : nz = m1 := by have h1 := LZ.out; have h2 := LY.out; rw [he, offsL_len] at h1; omega
    have HE := Lib.hid he; have SD := Lib.hid hszd; have FB := Lib.hid fb; have EB := Lib.hid eb
    subst nm
    have pg := prod_gap (g := gp) (n := (ys.length : Int) - 1) hgp (by omega)
    have su : ys.sum ≤ 80000 := by
      have h := sum_le8 (xs := ys) (M := 10000) (fun z hz => ((rowB_iff.1 hr).2 z hz).2)
      omega
    obtain ⟨q, rfl⟩ : ∃ q, nz = q + 1 := ⟨nz - 1, by omega⟩
    have yl : ys.length = q + 1 := LY.out
    have hm1 : gp * ((ys.length : Int) - 1) = gp * (q : Int) := by rw [yl]; congr 1; omega
    rw [hm1] at pg
    have oL := offsL_at gp (frontL (leftA ys sp gp) ys.length ju) ys q (by omega)
    have o0 := offsL_at gp (frontL (leftA ys sp gp) ys.length ju) ys 0 (by omega)
    rw [← he] at oL o0
    have le := last_end gp (frontL (leftA ys sp gp) ys.length ju) ys q (by rw [frontL_len _ _ _ lb ⟨n1, n8⟩]; exact yl) yl
    rw [← oL, frontL_sum _ _ _ lb ⟨n1, n8⟩] at le
    have st : offAt gp (frontL (leftA ys sp gp) ys.length ju) ys 0 = (frontL (leftA ys sp gp) ys.length ju).getD 0 0 := by unfold offAt endAt; omega
    rw [st, frontL_first _ _ _ lb ⟨n1, n8⟩] at o0
    have la : leftA ys sp gp = mx 0 (sp - ys.sum - gp * (q : Int)) := by unfold leftA; rw [hm1]
    have eq_ := EB.out q
    have fq := FB.out q
    have oq : offAt gp (frontL (leftA ys sp gp) ys.length ju) ys q = (frontL (leftA ys sp gp) ys.length ju).getD q 0 + endAt gp (frontL (leftA ys sp gp) ys.length ju) ys q := rfl
    have bL : 0 ≤ (offsA ys sp gp ju).getD q 0 ∧ (offsA ys sp gp ju).getD q 0 ≤ 10000000 := by omega
    have bq := SD.out q
    have FB0 : 0 ≤ (offsA ys sp gp ju).getD 0 0 ∧ (offsA ys sp gp ju).getD 0 0 ≤ 200001 := by
      have h := FB.out 0
      rw [frontL_first _ _ _ lb ⟨n1, n8⟩] at h
      rw [o0]; exact h
    have hl2 : (2 ≤ ys.length) ↔ 1 ≤ q := by omega
    rw [yl] at hl2
    rw [yl] at le
    obtain ⟨b, off, rfl, hb, hc⟩ := I1.out.at_ (by omega)
    obtain ⟨b', off', rfl, hb', hc'⟩ := (R2.out.ints LZ.out).at_ (by omega)
    have c0 : w4.cell? ⟨b', off', none⟩ = some (.int .i64 ((offsA ys sp gp ju).getD 0 0)) := hc' 0 (by omega)
    have cq : w4.cell? ⟨b', off' + q, none⟩ = some (.int .i64 ((offsA ys sp gp ju).getD q 0)) := hc' q (by omega)
    have cs : w4.cell? ⟨b, off + q, none⟩ = some (.int .i64 (ys.getD q 0)) := hc q (by omega)
    have SMH : Hid (Sml ys) := S1
    have NN := Lib.hid N4.out
    have l0 := lb.1
    have l1 := lb.2
    have q0 : (0 : Int) ≤ (q : Int) := by omega
    have q7 : (q : Int) ≤ 7 := by omega
    have iw : IntKind.i64.wrap ((q : Int) + 1 - 1) = (q : Int) := by rw [IntWalk.i64_in _ (by omega)]; omega
    obtain ⟨pg0, pg1⟩ := pg
    obtain ⟨gp0, gp1⟩ := hgp
    obtain ⟨ju0, ju3⟩ := hju
    clear hok hr he hszd fb eb hm1 oL st eq_ fq oq hc hc' lb
    generalize (offsA ys sp gp ju).getD 0 0 = u0 at *
    generalize (offsA ys sp gp ju).getD q 0 = uq at *
    generalize ys.getD q 0 = sq at *
    generalize leftA ys sp gp = L at *
    have IQ := I1
    generalize hS : ys.sum = S at *
    have HS := Lib.hid hS
    clear hS
    generalize hG : gp * (q : Int) = G at *
    have HG := Lib.hid hG
    have la2 : (S + G ≤ sp → L = sp - S - G) := fun h => by unfold mx at la; omega
    clear la
    have FIN : Hid ((ju = 0 → u0 = 0) ∧ (ju = 1 → S + G ≤ sp → uq + sq = sp) ∧ (ju = 3 → u0 = 0 ∧ (S + G ≤ sp → q ≠ 0 → uq + sq = sp)) ∧ (ju = 2 → S + G ≤ sp → sp - (uq + sq) - u0 = 0 ∨ sp - (uq + sq) - u0 = 1)) := Lib.hid (by
      refine ⟨fun h => ?_, fun h hr => ?_, fun h => ⟨?_, fun hr hq => ?_⟩, fun h hr => ?_⟩
      · subst h; simpa using o0
      · subst h; have := la2 hr; simp at le; omega
      · subst h; simpa using o0
      · subst h; have := la2 hr; simp [show 1 ≤ q by omega] at le; omega
      · subst h; have := la2 hr; simp at le o0; omega)
    clear le o0 la2 hl2
    have gw : IntKind.i64.wrap (gp * (q : Int)) = G := by rw [hG]; exact IntWalk.i64_in _ (by omega)
    have sw : IntKind.i64.wrap (uq + sq) = uq + sq := IntWalk.i64_in _ (by omega)
    have sgb : -1000000000 ≤ S ∧ S ≤ 1000000000 := by omega
    obtain ⟨sgb0, sgb1⟩ := sgb
    clear hG z8 zj
    rcases (show ju = 0 ∨ ju = 1 ∨ ju = 2 ∨ ju = 3 by omega) with rfl | rfl | rfl | rfl
    · have e0 := FIN.out.1 rfl
      subst e0
      go_wp2_with fail
      refine (lsum_any _ (q + 1) d1 ys (by omega) _ IQ.out SMH.out).mono ?_
      rw [HS.out]
      rintro e w' ⟨rfl, rfl⟩
      go_wp2
      go_quiet (fail)
      go_wp2
      go_ret
      exact ⟨rfl, NN.out.drewN _⟩
    · by_cases hroom : S + G ≤ sp
      · have e0 := FIN.out.2.1 rfl hroom
        have e1 : (uq + sq == sp) = true := by simpa using e0
        have dr : decide (S + G ≤ sp) = true := decide_eq_true hroom
        clear e0 hroom
        go_wp2_with fail
        refine (lsum_any _ (q + 1) d1 ys (by omega) _ IQ.out SMH.out).mono ?_
        rw [HS.out]
        rintro e w' ⟨rfl, rfl⟩
        go_wp2
        go_quiet (fail)
        go_wp2
        go_ret
        exact ⟨rfl, NN.out.drewN _⟩
      · have dr : decide (S + G ≤ sp) = false := decide_eq_false hroom
        clear hroom
        go_wp2_with fail
        refine (lsum_any _ (q + 1) d1 ys (by omega) _ IQ.out SMH.out).mono ?_
        rw [HS.out]
        rintro e w' ⟨rfl, rfl⟩
        go_wp2
        go_quiet (fail)
        go_wp2
        go_ret
        exact ⟨rfl, NN.out.drewN _⟩
    · by_cases hroom : S + G ≤ sp
      · have e0 := FIN.out.2.2.2 rfl hroom
        have dr : decide (S + G ≤ sp) = true := decide_eq_true hroom
        clear hroom
        have bb0 : -100000000 ≤ u0 ∧ u0 ≤ 100000000 := by omega
        obtain ⟨bb1, bb2⟩ := bb0
        have E0 : Hid ((sp - (uq + sq) - u0 == 0) = true ∨ ((sp - (uq + sq) - u0 == 0) = false ∧ (sp - (uq + sq) - u0 == 1) = true)) := Lib.hid (by
          rcases e0 with h | h
          · exact .inl (by simpa using h)
          · exact .inr ⟨by simp; omega, by simpa using h⟩)
        clear e0
        rcases E0.out with h | ⟨h, h'⟩
        all_goals
          go_wp2_with fail
          refine (lsum_any _ (q + 1) d1 ys (by omega) _ IQ.out SMH.out).mono ?_
          rw [HS.out]
          rintro e w' ⟨rfl, rfl⟩
          go_wp2
          go_quiet (fail)
          go_wp2
          go_ret
          exact ⟨rfl, NN.out.drewN _⟩
      · have dr : decide (S + G ≤ sp) = false := decide_eq_false hroom
        have bb0 : -100000000 ≤ u0 ∧ u0 ≤ 100000000 := by have := FB0; omega
        obtain ⟨bb1, bb2⟩ := bb0
        clear hroom
        go_wp2_with fail
        refine (lsum_any _ (q + 1) d1 ys (by omega) _ IQ.out SMH.out).mono ?_
        rw [HS.out]
        rintro e w' ⟨rfl, rfl⟩
        go_wp2
        go_quiet (fail)
        go_wp2
        go_ret
        exact ⟨rfl, NN.out.drewN _⟩
    · obtain ⟨e0, e1⟩ := FIN.out.2.2.1 rfl
      subst e0
      by_cases hroom : S + G ≤ sp
      · have dr : decide (S + G ≤ sp) = true := decide_eq_true hroom
        by_cases hq : q = 0
        · have hqb : ((q : Int) == 0) = true := by simp; omega
          clear hroom e1 hq
          go_wp2_with fail
          refine (lsum_any _ (q + 1) d1 ys (by omega) _ IQ.out SMH.out).mono ?_
          rw [HS.out]
          rintro e w' ⟨rfl, rfl⟩
          go_wp2
          go_quiet (fail)
          go_wp2
          go_ret
          exact ⟨rfl, NN.out.drewN _⟩
        · have hqb : ((q : Int) == 0) = false := by simp; omega
          have e2 := e1 hroom hq
          have e3 : (uq + sq == sp) = true := by simpa using e2
          clear hroom e1 e2 hq
          go_wp2_with fail
          refine (lsum_any _ (q + 1) d1 ys (by omega) _ IQ.out SMH.out).mono ?_
          rw [HS.out]
          rintro e w' ⟨rfl, rfl⟩
          go_wp2
          go_quiet (fail)
          go_wp2
          go_ret
          exact ⟨rfl, NN.out.drewN _⟩
      · have dr : decide (S + G ≤ sp) = false := decide_eq_false hroom
        clear hroom e1
        go_wp2_with fail
        refine (lsum_any _ (q + 1) d1 ys (by omega) _ IQ.out SMH.out).mono ?_
        rw [HS.out]
        rintro e w' ⟨rfl, rfl⟩
        go_wp2
        go_quiet (fail)
        go_wp2
        go_ret
        exact ⟨rfl, NN.out.drewN _⟩
end Go.Proofs.Ytcoddhlfhmelkaa
