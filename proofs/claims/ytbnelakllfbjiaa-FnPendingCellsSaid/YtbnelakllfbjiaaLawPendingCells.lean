/- The law FnPendingCells, walked: exactly the cells that differ are pending, and writing them as they are shown leaves none. Condition: the code can be read. -/
import Derived.Test.YtbnelakllfbjiaaBufP
import Derived.Test.YtbnelakllfbjiaaBufQ
import Derived.Test.YtbnelakllfbjiaaDrawC
import Derived.Test.YtbnelakllfbjiaaInL
import Derived.Test.YtbnelakllfbjiaaBufMix
import Derived.Deep.QuietTactic
import Derived.BigQuiet
import Derived.Deep.RegionHeld3
import Derived.Deep.Cut
namespace Go.Proofs.Ytbnelakllfbjiaa
open Go.RowKit

set_option maxRecDepth 100000 in
set_option maxHeartbeats 4000000 in
theorem lawPendingCells (A : Option Addr) (n c : Nat) (hn : n ≤ maxLen) (hnc : n ≤ c) (w : World) (hb : Bytes w A n) :
    Calls Try.prog 4 #[.slice A n c] w fun e w' => e = .returned (.bool true) ∧ New w w' := by
  have HB := Lib.hid hb; have HM := Lib.hid hn
  clear hb
  unfold maxLen at hn
  by_cases hbig : 1048576 < n
  · go_enter Try.func4, Try.ntmps4
    go_wp2
    go_ret
    exact ⟨rfl, by (repeat (first | exact New.refl _ | assumption | refine New.alloc ?_ _ | refine New.drew ?_ | refine New.drewN ?_ _ | refine New.setCell ?_ (by first | omega | (simp; omega) | (simp; done)) _ | refine New.trans ?_ (by assumption)))⟩
  have hm : (n : Int) ≤ 1048576 := by omega
  have hm0 : (0 : Int) ≤ (n : Int) := by omega
  go_enter Try.func4, Try.ntmps4
  go_wp2_with fail
  refine (DrawPendingCells_any A n c HM.out hnc _ HB.out).mono ?_
  rintro e w1 ⟨B1, m1, d1, C1, k1, e1, v, xs, ys, rfl, I1, J1, b1, c1, N1a⟩
  have s1 : w.heap.size ≤ w1.heap.size := by { have := N1a.le; simpa using this }
  have N1 := Lib.hid ((New.refl w).trans N1a); clear N1a
  have LX := Lib.hid I1.len; have LY := Lib.hid J1.len; replace I1 := Lib.hid I1; replace J1 := Lib.hid J1
  have BX : Hid (xs.length ≤ 100) := Lib.hid (by have := LX.out; omega)
  have BY : Hid (ys.length ≤ 100) := Lib.hid (by have := LY.out; omega)
  have mi : (m1 : Int) ≤ 100 := by omega
  have mj : (0 : Int) ≤ (m1 : Int) := by omega
  have ki : (k1 : Int) ≤ 100 := by omega
  have kj : (0 : Int) ≤ (k1 : Int) := by omega
  have I1z := I1; have J1z := J1
  have AU : New w1 (w1.alloc (.cells #[.slice B1 m1 d1, .slice C1 k1 e1, .int .i64 v] 25)) := by (repeat (first | exact New.refl _ | assumption | refine New.alloc ?_ _ | refine New.drew ?_ | refine New.drewN ?_ _ | refine New.setCell ?_ (by first | omega | (simp; omega) | (simp; done)) _ | refine New.trans ?_ (by assumption)))
  have I1 := Lib.hid (I1.out.new AU)
  have J1 := Lib.hid (J1.out.new AU)
  have Bb := Lib.hid (B3.laid w1 (.slice B1 m1 d1) (.slice C1 k1 e1) (.int .i64 v) 25)
  have NBb := Lib.hid (N1.out.trans AU); clear AU
  obtain ⟨_, v0a, v0b, v0c, _, _, _⟩ := Bb.out
  have Q1 : Hid (New w1 (w1.alloc (.cells #[.slice B1 m1 d1, .slice C1 k1 e1, .int .i64 v] 25))) := Lib.hid (by (repeat (first | exact New.refl _ | assumption | refine New.alloc ?_ _ | refine New.drew ?_ | refine New.drewN ?_ _ | refine New.setCell ?_ (by first | omega | (simp; omega) | (simp; done)) _ | refine New.trans ?_ (by assumption))))
  have I0 := Lib.hid (show Ints w1 B1 m1 xs from I1z.out); have J0 := Lib.hid (show Ints w1 C1 k1 ys from J1z.out)
  have PLA := pendA_len v xs ys
  go_wp2_with fail
  refine (PendingCells_ans B1 m1 d1 C1 k1 e1 v xs ys (by omega) (by omega) _ I1.out J1.out).mono ?_
  rintro e w2 ⟨A2, n2, c2, rfl, la2, r2, N2a⟩
  clear v0a v0b v0c
  have s2 : w1.heap.size + 1 ≤ w2.heap.size := by { have := N2a.le; simpa using this }
  have Bb := Lib.hid (Bb.out.new N2a)
  have I1 := Lib.hid (I1.out.new N2a)
  have J1 := Lib.hid (J1.out.new N2a)
  have Q1 := Lib.hid (Q1.out.new N2a)
  have N2 := Lib.hid (NBb.out.trans N2a); clear N2a
  obtain ⟨_, v1a, v1b, v1c, _, _, _⟩ := Bb.out
  have R2 := Lib.hid r2; have LA2 := Lib.hid la2; have bn2 : n2 ≤ 1048576 := by omega
  have in2 : (n2 : Int) ≤ 1048576 := by omega
  have jn2 : (0 : Int) ≤ (n2 : Int) := by omega
  clear la2 r2
  go_wp2_with fail
  refine (SPendingCells_ans B1 m1 d1 C1 k1 e1 v xs ys (by omega) (by omega) _ I1.out J1.out).mono ?_
  rintro e w3 ⟨A3, n3, c3, rfl, la3, r3, N3a⟩
  clear v1a v1b v1c
  have s3 : w2.heap.size ≤ w3.heap.size := by { have := N3a.le; simpa using this }
  have Bb := Lib.hid (Bb.out.new N3a)
  have I1 := Lib.hid (I1.out.new N3a)
  have J1 := Lib.hid (J1.out.new N3a)
  have Q1 := Lib.hid (Q1.out.new N3a)
  have R2 := Lib.hid (R2.out.new N3a)
  have N3 := Lib.hid (N2.out.trans N3a); clear N3a
  obtain ⟨_, v2a, v2b, v2c, _, _, _⟩ := Bb.out
  have R3 := Lib.hid r3; have LA3 := Lib.hid la3; have bn3 : n3 ≤ 1048576 := by omega
  have in3 : (n3 : Int) ≤ 1048576 := by omega
  have jn3 : (0 : Int) ≤ (n3 : Int) := by omega
  clear la3 r3
  go_wp2_with fail
  refine (equalInts_same _ _ _ _ _ _ (pendA v xs ys) (pendA v xs ys) bn2 bn3 _ (R2.out.ints LA2.out) (R3.out.ints LA3.out) rfl).mono ?_
  rintro e w4 ⟨rfl, N4a⟩
  clear v2a v2b v2c
  have s4 : w3.heap.size ≤ w4.heap.size := by { have := N4a.le; simpa using this }
  have Bb := Lib.hid (Bb.out.new N4a)
  have I1 := Lib.hid (I1.out.new N4a)
  have J1 := Lib.hid (J1.out.new N4a)
  have Q1 := Lib.hid (Q1.out.new N4a)
  have R2 := Lib.hid (R2.out.new N4a)
  have R3 := Lib.hid (R3.out.new N4a)
  have N4 := Lib.hid (N3.out.trans N4a); clear N4a
  obtain ⟨_, v3a, v3b, v3c, _, _, _⟩ := Bb.out
  cases hv : okB v xs ys
  · skip
    go_wp2_with fail
    refine (ValidBuffers_any B1 m1 d1 C1 k1 e1 v xs ys (by omega) (by omega) _ I1.out J1.out).mono ?_
    rw [hv]
    rintro e w5 ⟨rfl, N5a⟩
    clear v3a v3b v3c
    have s5 : w4.heap.size ≤ w5.heap.size := by { have := N5a.le; simpa using this }
    have Bb := Lib.hid (Bb.out.new N5a)
    have I1 := Lib.hid (I1.out.new N5a)
    have J1 := Lib.hid (J1.out.new N5a)
    have Q1 := Lib.hid (Q1.out.new N5a)
    have R2 := Lib.hid (R2.out.new N5a)
    have R3 := Lib.hid (R3.out.new N5a)
    have N5 := Lib.hid (N4.out.trans N5a); clear N5a
    obtain ⟨_, v4a, v4b, v4c, _, _, _⟩ := Bb.out
    go_wp2_with fail
    refine (SPendingCells_ans B1 m1 d1 C1 k1 e1 v xs ys (by omega) (by omega) _ I1.out J1.out).mono ?_
    rintro e w6 ⟨A6, n6, c6, rfl, la6, r6, N6a⟩
    clear v4a v4b v4c
    have s6 : w5.heap.size ≤ w6.heap.size := by { have := N6a.le; simpa using this }
    have Bb := Lib.hid (Bb.out.new N6a)
    have I1 := Lib.hid (I1.out.new N6a)
    have J1 := Lib.hid (J1.out.new N6a)
    have Q1 := Lib.hid (Q1.out.new N6a)
    have R2 := Lib.hid (R2.out.new N6a)
    have R3 := Lib.hid (R3.out.new N6a)
    have N6 := Lib.hid (N5.out.trans N6a); clear N6a
    obtain ⟨_, v5a, v5b, v5c, _, _, _⟩ := Bb.out
    have R6 := Lib.hid r6; have LA6 := Lib.hid la6; have bn6 : n6 ≤ 1048576 := by omega
    have in6 : (n6 : Int) ≤ 1048576 := by omega
    have jn6 : (0 : Int) ≤ (n6 : Int) := by omega
    clear la6 r6
    go_wp2_with fail
    refine (equalInts_same _ _ _ _ _ _ (pendA v xs ys) (pendA v xs ys) bn2 bn6 _ (R2.out.ints LA2.out) (R6.out.ints LA6.out) rfl).mono ?_
    rintro e w7 ⟨rfl, N7a⟩
    clear v5a v5b v5c
    have s7 : w6.heap.size ≤ w7.heap.size := by { have := N7a.le; simpa using this }
    have Bb := Lib.hid (Bb.out.new N7a)
    have I1 := Lib.hid (I1.out.new N7a)
    have J1 := Lib.hid (J1.out.new N7a)
    have Q1 := Lib.hid (Q1.out.new N7a)
    have R2 := Lib.hid (R2.out.new N7a)
    have R3 := Lib.hid (R3.out.new N7a)
    have R6 := Lib.hid (R6.out.new N7a)
    have N7 := Lib.hid (N6.out.trans N7a); clear N7a
    obtain ⟨_, v6a, v6b, v6c, _, _, _⟩ := Bb.out
    go_wp2
    go_ret
    exact ⟨rfl, N7.out⟩
  · have OV := Lib.hid hv
    have EP : Hid (pendA v xs ys = pendTo xs ys m1) := Lib.hid (by unfold pendA; rw [OV.out, LX.out]; rfl)
    have E12 := Lib.hid (okB_len OV.out).1
    have ek : k1 = m1 := (by have h1 := E12.out; have h2 := LX.out; have h3 := LY.out; omega)
    have EK := Lib.hid ek
    clear ek
    go_wp2_with fail
    refine (ValidBuffers_any B1 m1 d1 C1 k1 e1 v xs ys (by omega) (by omega) _ I1.out J1.out).mono ?_
    rw [hv]
    rintro e w5 ⟨rfl, N5a⟩
    clear v3a v3b v3c
    have s5 : w4.heap.size ≤ w5.heap.size := by { have := N5a.le; simpa using this }
    have Bb := Lib.hid (Bb.out.new N5a)
    have I1 := Lib.hid (I1.out.new N5a)
    have J1 := Lib.hid (J1.out.new N5a)
    have Q1 := Lib.hid (Q1.out.new N5a)
    have R2 := Lib.hid (R2.out.new N5a)
    have R3 := Lib.hid (R3.out.new N5a)
    have N5 := Lib.hid (N4.out.trans N5a); clear N5a
    obtain ⟨_, v4a, v4b, v4c, _, _, _⟩ := Bb.out
    clear hv
    have AU : New w5 (w5.alloc (.cells #[.slice B1 m1 d1, .slice C1 k1 e1, .int .i64 v] 25)) := by (repeat (first | exact New.refl _ | assumption | refine New.alloc ?_ _ | refine New.drew ?_ | refine New.drewN ?_ _ | refine New.setCell ?_ (by first | omega | (simp; omega) | (simp; done)) _ | refine New.trans ?_ (by assumption)))
    have Bb := Lib.hid (Bb.out.new AU)
    have I1 := Lib.hid (I1.out.new AU)
    have J1 := Lib.hid (J1.out.new AU)
    have Q1 := Lib.hid (Q1.out.new AU)
    have R2 := Lib.hid (R2.out.new AU)
    have R3 := Lib.hid (R3.out.new AU)
    have Bc := Lib.hid (B3.laid w5 (.slice B1 m1 d1) (.slice C1 k1 e1) (.int .i64 v) 25)
    have NBc := Lib.hid (N5.out.trans AU); clear AU
    obtain ⟨_, v5a, v5b, v5c, _, _, _⟩ := Bb.out
    obtain ⟨_, v6a, v6b, v6c, _, _, _⟩ := Bc.out
    go_wp2
    clear v4a v4b v4c v5a v5b v5c v6a v6b v6c
    generalize hWS : (w5.alloc (.cells #[.slice B1 m1 d1, .slice C1 k1 e1, .int .i64 v] 25)) = WS at *
    have zS : w5.heap.size < WS.heap.size := Bc.out.lt
    have z15 : w1.heap.size ≤ w5.heap.size := by have := Q1.out.le; have := hWS; omega
    clear hWS
    go_loopw [6] (fun ii wr => ∃ (q : Nat) (A5 : Option Addr) (c5 : Nat) (B5 : Option Addr) (d5 : Nat), q ≤ m1 ∧ ii = .int .i64 (q : Int) ∧ Hid (B3 wr (w5.heap.size) (.slice A5 m1 c5) (.slice B5 k1 d5) (.int .i64 v)) ∧ Hid (Ints wr A5 m1 xs) ∧ Hid (Ints wr B5 k1 (mix xs ys q)) ∧ Hid (Chg (w5.heap.size) (w5.heap.size + 1) WS wr)) (fun ii _ => m1 - (intOf ii).toNat)
    case atStart => exact ⟨0, B1, d1, C1, e1, Nat.zero_le _, rfl, Bc, I1, Lib.hid (by rw [mix_zero]; exact J1.out), Lib.hid (Chg.refl _ _ _)⟩
    case round =>
      obtain ⟨q, A5, c5, B5, d5, hq, rfl, HB5, HA, HM, HK⟩ := hrel
      have q0 : (0 : Int) ≤ (q : Int) := by omega
      have zr : WS.heap.size ≤ wr.heap.size := HK.out.size
      have NQ := Lib.hid (Q1.out.chgs HK.out z15)
      have NR := Lib.hid (NBc.out.chgs HK.out (by have := N1.out.le; omega))
      have RO := Lib.hid (R2.out.chg HK.out (by omega))
      have BB := Lib.hid (Bb.out.chg HK.out (by omega))
      obtain ⟨_, v0, v1, v2, _, _, _⟩ := BB.out
      obtain ⟨_, u0, u1, u2, uf0, uf1, uf2⟩ := HB5.out
      have HI := Lib.hid (I0.out.new NQ.out); have HJ := Lib.hid (J0.out.new NQ.out)
      by_cases hlt : q < m1
      · have q1 : (q : Int) < (m1 : Int) := by omega
        have hlk : q < k1 := by have := EK.out; omega
        have q2 : (q : Int) < (k1 : Int) := by omega
        obtain ⟨b, off, hB, hb, hcc⟩ := HI.out.at_ (by omega)
        obtain ⟨b', off', hB', hb', hcc'⟩ := HJ.out.at_ (by omega)
        subst hB hB'
        have gc := hcc q hlt; have gc' := hcc' q hlk
        have hqx : q < xs.length := by have := LX.out; omega
        have hqy : q < ys.length := by have := LY.out; omega
        have IP : Hid (inL (pendTo xs ys m1) q = (xs.getD q 0 != ys.getD q 0)) := Lib.hid (inL_pend hlt)
        have WOK : Hid (wrOk v xs (mix xs ys q) (q : Int) (xs.getD q 0) = true) := Lib.hid (mix_wr OV.out hqx)
        have MST : Hid ((mix xs ys q).set (q : Int).toNat (xs.getD q 0) = mix xs ys (q + 1)) := Lib.hid (by rw [Int.toNat_natCast]; exact mix_step hqx hqy)
        have MLN : Hid ((mix xs ys (q + 1)).length = m1) := Lib.hid (mix_len LX.out (LY.out.trans EK.out) (by omega))
        clear hcc hcc' hb hb'
        generalize xs.getD q 0 = y at gc IP WOK MST
        generalize ys.getD q 0 = y2 at gc' IP
        cases hyz : (y != y2)
        · have hyz2 : (y == y2) = true := by simpa using hyz
          have CA := Lib.hid (fun (W : World) (h : Ints W A2 n2 (pendA v xs ys)) => (show Calls Try.prog 24 #[.slice A2 n2 c2, .int .i64 (q : Int)] W fun e w' => e = .returned (.bool false) ∧ W = w' by have h1 := isInL_any A2 n2 c2 q (pendA v xs ys) bn2 W h; rw [EP.out, IP.out, hyz] at h1; exact h1))
          go_wp2
          go_quiet ((go_at_call 24; exact Calls.quiet_of_same ((CA.out _ ((RO.out.ints LA2.out).drewN _)).mono fun _ _ h => ⟨h.1, h.2.symm⟩)))
          obtain ⟨wq, hwq⟩ : ∃ wq, wr.drewN nq = wq := ⟨_, rfl⟩
          have NQ0 : New wr wq := hwq ▸ (New.refl wr).drewN nq
          go_upto_region 13 with fail
          rw [hwq]
          have ND := NQ0.trans (New.refl wq).drew
          have B5D := Lib.hid (HB5.out.new ND); have BBD := Lib.hid (BB.out.new ND); have IAD := Lib.hid (HA.out.new ND); have IMD := Lib.hid (HM.out.new ND)
          have gcD : wq.drew.cell? ⟨b, off + q, none⟩ = some (.int .i64 y) := (ND.cells b _ (World.block_lt_of_cell? wr _ gc)).trans gc
          have ND := Lib.hid ND
          clear NQ0 hwq
          have K0 : C7 wq.drew (w5.heap.size) (w1.heap.size) b (off + q) _ _ _ _ _ _ _ := ⟨B5D.out.c0, B5D.out.c1, B5D.out.c2, BBD.out.c0, BBD.out.c1, BBD.out.c2, gcD⟩
          have NB : New wq.drew (wq.alloc (.cells #[.slice none 0 0, .slice none 0 0, .int .i64 0] 25)).drew := (show New wq.drew (wq.drew.alloc (.cells #[.slice none 0 0, .slice none 0 0, .int .i64 0] 25)) by (repeat (first | exact New.refl _ | assumption | refine New.alloc ?_ _ | refine New.drew ?_ | refine New.drewN ?_ _ | refine New.setCell ?_ (by first | omega | (simp; omega) | (simp; done)) _ | refine New.trans ?_ (by assumption))))
          have KB := K0.new NB
          have IAB := Lib.hid (IAD.out.new NB); have IMB := Lib.hid (IMD.out.new NB); have B5B := Lib.hid (B5D.out.new NB); have NDB := Lib.hid (ND.out.trans NB)
          have HZ := Lib.hid ((B3.laid wq (.slice none 0 0) (.slice none 0 0) (.int .i64 0) 25).new (New.refl _).drew)
          have zq : wr.heap.size ≤ wq.drew.heap.size := ND.out.le
          have zq2 : wq.drew.heap.size = wq.heap.size := rfl
          have zq3 : (wq.alloc (.cells #[.slice none 0 0, .slice none 0 0, .int .i64 0] 25)).drew.heap.size = wq.heap.size + 1 := by show (wq.alloc (.cells #[.slice none 0 0, .slice none 0 0, .int .i64 0] 25)).heap.size = _; simp
          have hbr : b < wr.heap.size := World.block_lt_of_cell? wr _ gc
          have hg3 := BB.out.lt
          clear NB v0 v1 v2 u0 u1 u2 uf0 uf1 uf2 gc gc' gcD
          go_region_held3 (fun w' => w'.cell? ⟨w5.heap.size, 0, none⟩ = some (.slice A5 m1 c5) ∧ w'.cell? ⟨w5.heap.size, 1, none⟩ = some (.slice B5 k1 d5) ∧ w'.cell? ⟨w5.heap.size, 2, none⟩ = some (.int .i64 v) ∧ w'.cell? ⟨w1.heap.size, 0, none⟩ = some (.slice (some ⟨b, off, none⟩) m1 d1) ∧ w'.cell? ⟨w1.heap.size, 1, none⟩ = some (.slice (some ⟨b', off', none⟩) k1 e1) ∧ w'.cell? ⟨w1.heap.size, 2, none⟩ = some (.int .i64 v) ∧ w'.cell? ⟨b, off + q, none⟩ = some (.int .i64 y))
            (first | exact K0 | exact K1 | exact K2 | exact K3 | exact KB)
            (first
              | ((go_at_call 25); (have CT := WriteCell_ansB A5 m1 c5 B5 k1 d5 v xs (mix xs ys q) (q : Int) y (by omega) (by omega) _ IAD.out IMD.out); (rw [WOK.out, MST.out] at CT); (rw [show okV true v = v from rfl] at CT); ((with_reducible refine CT.mono ?_)); clear CT; (rintro e w6 ⟨A6, n6, c6, B6, m6, d6, rfl, la, lb, r, N6⟩); (replace la : xs.length = n6 := la); (replace lb : (mix xs ys (q + 1)).length = m6 := lb); (replace r : Res2 _ _ w6 A6 xs B6 (mix xs ys (q + 1)) := r); (have K1 := K0.new N6); (have K2 := K1.new ((New.refl w6).alloc (.cells #[.slice none 0 0, .slice none 0 0, .int .i64 0] 25))); (have K3 := K1.new ((New.refl w6).alloc (.cells #[.slice A6 n6 c6, .slice B6 m6 d6, .int .i64 v] 25))); (have z6 := N6.le); (have NW := Lib.hid (ND.out.trans N6)); (have B6F := Lib.hid (B5D.out.new N6)); (have RR := Lib.hid r); (have LA6 := Lib.hid la); (have LB6 := Lib.hid lb); clear la lb r N6)
              | ((go_at_call 25); (have CT := WriteCell_ansB A5 m1 c5 B5 k1 d5 v xs (mix xs ys q) (q : Int) y (by omega) (by omega) _ IAB.out IMB.out); (rw [WOK.out, MST.out] at CT); (rw [show okV true v = v from rfl] at CT); ((with_reducible refine CT.mono ?_)); clear CT; (rintro e w6 ⟨A6, n6, c6, B6, m6, d6, rfl, la, lb, r, N6⟩); (replace la : xs.length = n6 := la); (replace lb : (mix xs ys (q + 1)).length = m6 := lb); (replace r : Res2 _ _ w6 A6 xs B6 (mix xs ys (q + 1)) := r); (have K1 := KB.new N6); (have z6 := N6.le); (have NW := Lib.hid (NDB.out.trans N6)); (have B6F := Lib.hid (B5B.out.new N6)); (have HZ6 := Lib.hid (HZ.out.new N6)); (obtain ⟨_, y0, y1, y2', yf0, yf1, yf2⟩ := HZ6.out); (have K3 := K1.sets (k := wq.heap.size) (by omega) (by omega) (by omega) (.slice A6 n6 c6) (.slice B6 m6 d6) (.int .i64 v)); (have RR := Lib.hid r); (have LA6 := Lib.hid la); (have LB6 := Lib.hid lb); clear la lb r N6))
          · clear K0 K1 K2 K3 KB
            obtain rfl : m1 = n6 := by have h1 := LA6.out; have h2 := LX.out; omega
            obtain rfl : k1 = m6 := by have h1 := LB6.out; have h2 := MLN.out; have h3 := EK.out; omega
            have AL : New w6 (w6.alloc (.cells #[.slice A6 m1 c6, .slice B6 k1 d6, .int .i64 v] 25)) := by (repeat (first | exact New.refl _ | assumption | refine New.alloc ?_ _ | refine New.drew ?_ | refine New.drewN ?_ _ | refine New.setCell ?_ (by first | omega | (simp; omega) | (simp; done)) _ | refine New.trans ?_ (by assumption)))
            have H6 := Lib.hid (B3.laid w6 (.slice A6 m1 c6) (.slice B6 k1 d6) (.int .i64 v) 25)
            have BF := Lib.hid (B6F.out.new AL); have RR := Lib.hid (RR.out.new AL); have NF := Lib.hid (NW.out.trans AL)
            have gz : w5.heap.size < w6.heap.size := by omega
            clear AL
            generalize w6.alloc (.cells #[.slice A6 m1 c6, .slice B6 k1 d6, .int .i64 v] 25) = wE at *
            obtain ⟨_, u0, u1, u2, uf0, uf1, uf2⟩ := BF.out
            obtain ⟨_, h0, h1, h2, _, _, _⟩ := H6.out
            go_wp2
            go_roundw
            case rel => exact ⟨q + 1, A6, c6, B6, d6, by omega, by go_num, Lib.hid (((BF.out.set0 _).set1 _).set2 _), Lib.hid ((RR.out.chg (((Chg.set _ (w5.heap.size) 0 (.slice A6 m1 c6)).trans (Chg.set _ (w5.heap.size) 1 (.slice B6 k1 d6))).trans (Chg.set _ (w5.heap.size) 2 (.int .i64 v))) (.inr (by omega))).intsA LA6.out), Lib.hid ((RR.out.chg (((Chg.set _ (w5.heap.size) 0 (.slice A6 m1 c6)).trans (Chg.set _ (w5.heap.size) 1 (.slice B6 k1 d6))).trans (Chg.set _ (w5.heap.size) 2 (.int .i64 v))) (.inr (by omega))).intsB LB6.out), Lib.hid ((HK.out.trans (NF.out.chg _ _)).trans (((Chg.set _ (w5.heap.size) 0 (.slice A6 m1 c6)).trans (Chg.set _ (w5.heap.size) 1 (.slice B6 k1 d6))).trans (Chg.set _ (w5.heap.size) 2 (.int .i64 v))))⟩
            case measure => simp [intOf]; omega
          · clear K0 K1 K3 KB
            obtain rfl : m1 = n6 := by have h1 := LA6.out; have h2 := LX.out; omega
            obtain rfl : k1 = m6 := by have h1 := LB6.out; have h2 := MLN.out; have h3 := EK.out; omega
            have KH := Lib.hid (show Chg wq.heap.size (wq.heap.size + 1) w6 _ from (((Chg.set w6 (wq.heap.size) 0 (.slice A6 m1 c6)).trans (Chg.set _ (wq.heap.size) 1 (.slice B6 k1 d6))).trans (Chg.set _ (wq.heap.size) 2 (.int .i64 v))))
            have H6 := Lib.hid (((HZ6.out.set0 (.slice A6 m1 c6)).set1 (.slice B6 k1 d6)).set2 (.int .i64 v))
            have BF := Lib.hid (B6F.out.chg KH.out (by omega)); have RR := Lib.hid (RR.out.chg KH.out (.inr (by omega))); have NF := Lib.hid (NW.out.chgs KH.out (by omega))
            clear y0 y1 y2' yf0 yf1 yf2
            generalize (((w6.setCell ⟨wq.heap.size, 0, none⟩ (.slice A6 m1 c6)).setCell ⟨wq.heap.size, 1, none⟩ (.slice B6 k1 d6)).setCell ⟨wq.heap.size, 2, none⟩ (.int .i64 v)) = wE at *
            obtain ⟨_, u0, u1, u2, uf0, uf1, uf2⟩ := BF.out
            obtain ⟨_, h0, h1, h2, _, _, _⟩ := H6.out
            have gz : w5.heap.size < wq.heap.size := by omega
            go_wp2
            go_roundw
            case rel => exact ⟨q + 1, A6, c6, B6, d6, by omega, by go_num, Lib.hid (((BF.out.set0 _).set1 _).set2 _), Lib.hid ((RR.out.chg (((Chg.set _ (w5.heap.size) 0 (.slice A6 m1 c6)).trans (Chg.set _ (w5.heap.size) 1 (.slice B6 k1 d6))).trans (Chg.set _ (w5.heap.size) 2 (.int .i64 v))) (.inr (by omega))).intsA LA6.out), Lib.hid ((RR.out.chg (((Chg.set _ (w5.heap.size) 0 (.slice A6 m1 c6)).trans (Chg.set _ (w5.heap.size) 1 (.slice B6 k1 d6))).trans (Chg.set _ (w5.heap.size) 2 (.int .i64 v))) (.inr (by omega))).intsB LB6.out), Lib.hid ((HK.out.trans (NF.out.chg _ _)).trans (((Chg.set _ (w5.heap.size) 0 (.slice A6 m1 c6)).trans (Chg.set _ (w5.heap.size) 1 (.slice B6 k1 d6))).trans (Chg.set _ (w5.heap.size) 2 (.int .i64 v))))⟩
            case measure => simp [intOf]; omega
        · have hyz2 : (y == y2) = false := by simpa using hyz
          have CA := Lib.hid (fun (W : World) (h : Ints W A2 n2 (pendA v xs ys)) => (show Calls Try.prog 24 #[.slice A2 n2 c2, .int .i64 (q : Int)] W fun e w' => e = .returned (.bool true) ∧ W = w' by have h1 := isInL_any A2 n2 c2 q (pendA v xs ys) bn2 W h; rw [EP.out, IP.out, hyz] at h1; exact h1))
          go_wp2
          go_quiet ((go_at_call 24; exact Calls.quiet_of_same ((CA.out _ ((RO.out.ints LA2.out).drewN _)).mono fun _ _ h => ⟨h.1, h.2.symm⟩)))
          obtain ⟨wq, hwq⟩ : ∃ wq, wr.drewN nq = wq := ⟨_, rfl⟩
          have NQ0 : New wr wq := hwq ▸ (New.refl wr).drewN nq
          go_upto_region 13 with fail
          rw [hwq]
          have ND := NQ0.trans (New.refl wq).drew
          have B5D := Lib.hid (HB5.out.new ND); have BBD := Lib.hid (BB.out.new ND); have IAD := Lib.hid (HA.out.new ND); have IMD := Lib.hid (HM.out.new ND)
          have gcD : wq.drew.cell? ⟨b, off + q, none⟩ = some (.int .i64 y) := (ND.cells b _ (World.block_lt_of_cell? wr _ gc)).trans gc
          have ND := Lib.hid ND
          clear NQ0 hwq
          have K0 : C7 wq.drew (w5.heap.size) (w1.heap.size) b (off + q) _ _ _ _ _ _ _ := ⟨B5D.out.c0, B5D.out.c1, B5D.out.c2, BBD.out.c0, BBD.out.c1, BBD.out.c2, gcD⟩
          have NB : New wq.drew (wq.alloc (.cells #[.slice none 0 0, .slice none 0 0, .int .i64 0] 25)).drew := (show New wq.drew (wq.drew.alloc (.cells #[.slice none 0 0, .slice none 0 0, .int .i64 0] 25)) by (repeat (first | exact New.refl _ | assumption | refine New.alloc ?_ _ | refine New.drew ?_ | refine New.drewN ?_ _ | refine New.setCell ?_ (by first | omega | (simp; omega) | (simp; done)) _ | refine New.trans ?_ (by assumption))))
          have KB := K0.new NB
          have IAB := Lib.hid (IAD.out.new NB); have IMB := Lib.hid (IMD.out.new NB); have B5B := Lib.hid (B5D.out.new NB); have NDB := Lib.hid (ND.out.trans NB)
          have HZ := Lib.hid ((B3.laid wq (.slice none 0 0) (.slice none 0 0) (.int .i64 0) 25).new (New.refl _).drew)
          have zq : wr.heap.size ≤ wq.drew.heap.size := ND.out.le
          have zq2 : wq.drew.heap.size = wq.heap.size := rfl
          have zq3 : (wq.alloc (.cells #[.slice none 0 0, .slice none 0 0, .int .i64 0] 25)).drew.heap.size = wq.heap.size + 1 := by show (wq.alloc (.cells #[.slice none 0 0, .slice none 0 0, .int .i64 0] 25)).heap.size = _; simp
          have hbr : b < wr.heap.size := World.block_lt_of_cell? wr _ gc
          have hg3 := BB.out.lt
          clear NB v0 v1 v2 u0 u1 u2 uf0 uf1 uf2 gc gc' gcD
          go_region_held3 (fun w' => w'.cell? ⟨w5.heap.size, 0, none⟩ = some (.slice A5 m1 c5) ∧ w'.cell? ⟨w5.heap.size, 1, none⟩ = some (.slice B5 k1 d5) ∧ w'.cell? ⟨w5.heap.size, 2, none⟩ = some (.int .i64 v) ∧ w'.cell? ⟨w1.heap.size, 0, none⟩ = some (.slice (some ⟨b, off, none⟩) m1 d1) ∧ w'.cell? ⟨w1.heap.size, 1, none⟩ = some (.slice (some ⟨b', off', none⟩) k1 e1) ∧ w'.cell? ⟨w1.heap.size, 2, none⟩ = some (.int .i64 v) ∧ w'.cell? ⟨b, off + q, none⟩ = some (.int .i64 y))
            (first | exact K0 | exact K1 | exact K2 | exact K3 | exact KB)
            (first
              | ((go_at_call 25); (have CT := WriteCell_ansB A5 m1 c5 B5 k1 d5 v xs (mix xs ys q) (q : Int) y (by omega) (by omega) _ IAD.out IMD.out); (rw [WOK.out, MST.out] at CT); (rw [show okV true v = v from rfl] at CT); ((with_reducible refine CT.mono ?_)); clear CT; (rintro e w6 ⟨A6, n6, c6, B6, m6, d6, rfl, la, lb, r, N6⟩); (replace la : xs.length = n6 := la); (replace lb : (mix xs ys (q + 1)).length = m6 := lb); (replace r : Res2 _ _ w6 A6 xs B6 (mix xs ys (q + 1)) := r); (have K1 := K0.new N6); (have K2 := K1.new ((New.refl w6).alloc (.cells #[.slice none 0 0, .slice none 0 0, .int .i64 0] 25))); (have K3 := K1.new ((New.refl w6).alloc (.cells #[.slice A6 n6 c6, .slice B6 m6 d6, .int .i64 v] 25))); (have z6 := N6.le); (have NW := Lib.hid (ND.out.trans N6)); (have B6F := Lib.hid (B5D.out.new N6)); (have RR := Lib.hid r); (have LA6 := Lib.hid la); (have LB6 := Lib.hid lb); clear la lb r N6)
              | ((go_at_call 25); (have CT := WriteCell_ansB A5 m1 c5 B5 k1 d5 v xs (mix xs ys q) (q : Int) y (by omega) (by omega) _ IAB.out IMB.out); (rw [WOK.out, MST.out] at CT); (rw [show okV true v = v from rfl] at CT); ((with_reducible refine CT.mono ?_)); clear CT; (rintro e w6 ⟨A6, n6, c6, B6, m6, d6, rfl, la, lb, r, N6⟩); (replace la : xs.length = n6 := la); (replace lb : (mix xs ys (q + 1)).length = m6 := lb); (replace r : Res2 _ _ w6 A6 xs B6 (mix xs ys (q + 1)) := r); (have K1 := KB.new N6); (have z6 := N6.le); (have NW := Lib.hid (NDB.out.trans N6)); (have B6F := Lib.hid (B5B.out.new N6)); (have HZ6 := Lib.hid (HZ.out.new N6)); (obtain ⟨_, y0, y1, y2', yf0, yf1, yf2⟩ := HZ6.out); (have K3 := K1.sets (k := wq.heap.size) (by omega) (by omega) (by omega) (.slice A6 n6 c6) (.slice B6 m6 d6) (.int .i64 v)); (have RR := Lib.hid r); (have LA6 := Lib.hid la); (have LB6 := Lib.hid lb); clear la lb r N6))
          · clear K0 K1 K2 K3 KB
            obtain rfl : m1 = n6 := by have h1 := LA6.out; have h2 := LX.out; omega
            obtain rfl : k1 = m6 := by have h1 := LB6.out; have h2 := MLN.out; have h3 := EK.out; omega
            have AL : New w6 (w6.alloc (.cells #[.slice A6 m1 c6, .slice B6 k1 d6, .int .i64 v] 25)) := by (repeat (first | exact New.refl _ | assumption | refine New.alloc ?_ _ | refine New.drew ?_ | refine New.drewN ?_ _ | refine New.setCell ?_ (by first | omega | (simp; omega) | (simp; done)) _ | refine New.trans ?_ (by assumption)))
            have H6 := Lib.hid (B3.laid w6 (.slice A6 m1 c6) (.slice B6 k1 d6) (.int .i64 v) 25)
            have BF := Lib.hid (B6F.out.new AL); have RR := Lib.hid (RR.out.new AL); have NF := Lib.hid (NW.out.trans AL)
            have gz : w5.heap.size < w6.heap.size := by omega
            clear AL
            generalize w6.alloc (.cells #[.slice A6 m1 c6, .slice B6 k1 d6, .int .i64 v] 25) = wE at *
            obtain ⟨_, u0, u1, u2, uf0, uf1, uf2⟩ := BF.out
            obtain ⟨_, h0, h1, h2, _, _, _⟩ := H6.out
            go_wp2
            go_roundw
            case rel => exact ⟨q + 1, A6, c6, B6, d6, by omega, by go_num, Lib.hid (((BF.out.set0 _).set1 _).set2 _), Lib.hid ((RR.out.chg (((Chg.set _ (w5.heap.size) 0 (.slice A6 m1 c6)).trans (Chg.set _ (w5.heap.size) 1 (.slice B6 k1 d6))).trans (Chg.set _ (w5.heap.size) 2 (.int .i64 v))) (.inr (by omega))).intsA LA6.out), Lib.hid ((RR.out.chg (((Chg.set _ (w5.heap.size) 0 (.slice A6 m1 c6)).trans (Chg.set _ (w5.heap.size) 1 (.slice B6 k1 d6))).trans (Chg.set _ (w5.heap.size) 2 (.int .i64 v))) (.inr (by omega))).intsB LB6.out), Lib.hid ((HK.out.trans (NF.out.chg _ _)).trans (((Chg.set _ (w5.heap.size) 0 (.slice A6 m1 c6)).trans (Chg.set _ (w5.heap.size) 1 (.slice B6 k1 d6))).trans (Chg.set _ (w5.heap.size) 2 (.int .i64 v))))⟩
            case measure => simp [intOf]; omega
          · clear K0 K1 K3 KB
            obtain rfl : m1 = n6 := by have h1 := LA6.out; have h2 := LX.out; omega
            obtain rfl : k1 = m6 := by have h1 := LB6.out; have h2 := MLN.out; have h3 := EK.out; omega
            have KH := Lib.hid (show Chg wq.heap.size (wq.heap.size + 1) w6 _ from (((Chg.set w6 (wq.heap.size) 0 (.slice A6 m1 c6)).trans (Chg.set _ (wq.heap.size) 1 (.slice B6 k1 d6))).trans (Chg.set _ (wq.heap.size) 2 (.int .i64 v))))
            have H6 := Lib.hid (((HZ6.out.set0 (.slice A6 m1 c6)).set1 (.slice B6 k1 d6)).set2 (.int .i64 v))
            have BF := Lib.hid (B6F.out.chg KH.out (by omega)); have RR := Lib.hid (RR.out.chg KH.out (.inr (by omega))); have NF := Lib.hid (NW.out.chgs KH.out (by omega))
            clear y0 y1 y2' yf0 yf1 yf2
            generalize (((w6.setCell ⟨wq.heap.size, 0, none⟩ (.slice A6 m1 c6)).setCell ⟨wq.heap.size, 1, none⟩ (.slice B6 k1 d6)).setCell ⟨wq.heap.size, 2, none⟩ (.int .i64 v)) = wE at *
            obtain ⟨_, u0, u1, u2, uf0, uf1, uf2⟩ := BF.out
            obtain ⟨_, h0, h1, h2, _, _, _⟩ := H6.out
            have gz : w5.heap.size < wq.heap.size := by omega
            go_wp2
            go_roundw
            case rel => exact ⟨q + 1, A6, c6, B6, d6, by omega, by go_num, Lib.hid (((BF.out.set0 _).set1 _).set2 _), Lib.hid ((RR.out.chg (((Chg.set _ (w5.heap.size) 0 (.slice A6 m1 c6)).trans (Chg.set _ (w5.heap.size) 1 (.slice B6 k1 d6))).trans (Chg.set _ (w5.heap.size) 2 (.int .i64 v))) (.inr (by omega))).intsA LA6.out), Lib.hid ((RR.out.chg (((Chg.set _ (w5.heap.size) 0 (.slice A6 m1 c6)).trans (Chg.set _ (w5.heap.size) 1 (.slice B6 k1 d6))).trans (Chg.set _ (w5.heap.size) 2 (.int .i64 v))) (.inr (by omega))).intsB LB6.out), Lib.hid ((HK.out.trans (NF.out.chg _ _)).trans (((Chg.set _ (w5.heap.size) 0 (.slice A6 m1 c6)).trans (Chg.set _ (w5.heap.size) 1 (.slice B6 k1 d6))).trans (Chg.set _ (w5.heap.size) 2 (.int .i64 v))))⟩
            case measure => simp [intOf]; omega
      · obtain rfl : m1 = q := by omega
        have HM2 := Lib.hid (show Ints wr B5 k1 xs by have h := HM.out; rw [mix_all LX.out (LY.out.trans EK.out)] at h; exact h)
        have PX : Hid (pendA v xs xs = []) := Lib.hid (pendA_same v xs)
        go_wp2_with fail
        refine (PendingCells_ans A5 m1 c5 B5 k1 d5 v xs xs (by omega) (by omega) _ HA.out HM2.out).mono ?_
        rw [PX.out]
        rintro e wz ⟨A7, n7, c7, rfl, la, r, NZ⟩
        obtain rfl : 0 = n7 := la
        have NZ := Lib.hid (NR.out.trans NZ)
        clear r
        go_wp2
        go_ret
        exact ⟨rfl, NZ.out⟩
end Go.Proofs.Ytbnelakllfbjiaa
