/- The law FnNextLeaf, walked: the next leaf is a leaf, and none lies between. Condition: the code can be read. -/
import Derived.Test.YtohjfddmnhnfjaaDrawPt
import Derived.Test.YtohjfddmnhnfjaaPathP
import Derived.Deep.LoopGhost
namespace Go.Proofs.Ytohjfddmnhnfjaa
open Go.RowKit

set_option maxHeartbeats 4000000 in
theorem lawNextLeaf (A : Option Addr) (n c : Nat) (hn : n ≤ maxLen) (hnc : n ≤ c) (w : World) (hb : Bytes w A n) :
    Calls Try.prog 12 #[.slice A n c] w fun e w' => e = .returned (.bool true) ∧ New w w' := by
  have HB := Lib.hid hb; have HM := Lib.hid hn
  clear hb
  unfold maxLen at hn
  by_cases hbig : 1048576 < n
  · go_enter Try.func12, Try.ntmps12
    go_wp2
    go_ret
    exact ⟨rfl, by (repeat (first | exact New.refl _ | assumption | refine New.alloc ?_ _ | refine New.drew ?_ | refine New.drewN ?_ _ | refine New.setCell ?_ (by first | omega | (simp; omega) | (simp; done)) _ | refine New.trans ?_ (by assumption)))⟩
  have hm : (n : Int) ≤ 1048576 := by omega
  have hm0 : (0 : Int) ≤ (n : Int) := by omega
  go_enter Try.func12, Try.ntmps12
  go_wp2_with fail
  refine (DrawNextLeaf_any A n c HM.out hnc _ HB.out).mono ?_
  rintro e w1 ⟨B1, m1, d1, zs, x, rfl, I1, l1, kd, xb, N1a⟩
  have s1 := N1a.le
  have N1 := Lib.hid ((New.refl w).trans N1a); clear N1a
  replace I1 := Lib.hid I1
  by_cases hok : nodeOk m1 zs x = true
  · obtain ⟨hv, a, rfl, ha⟩ := nodeOk_iff.1 hok
    have HV := Lib.hid hv; have v1 := (vtB_iff.1 hv).1
    have a0 : (0 : Int) ≤ (a : Int) := by omega
    have a1 : (a : Int) < (m1 : Int) := by omega
    clear hok xb
    have EN := Lib.hid (show nlA m1 zs (a : Int) = nlf zs m1 a 0 by unfold nlA; rw [if_pos (nodeOk_iff.2 ⟨hv, a, rfl, ha⟩), Int.toNat_natCast])
    rcases nlf_spec zs m1 a 0 (Nat.zero_le _) with ⟨e1, _⟩ | ⟨u, _, hu, e1, hk, hs⟩
    · replace e1 := Lib.hid e1
      clear hv
      go_wp2_with fail
      refine (NextLeaf_any B1 m1 d1 zs (a : Int) (by omega) _ I1.out).mono ?_
      rw [EN.out, e1.out]
      rintro e w2 ⟨rfl, N2a⟩
      have s2 := N2a.le
      have I1 := Lib.hid (I1.out.new N2a)
      have N2 := Lib.hid (N1.out.trans N2a); clear N2a
      go_wp2_with fail
      refine (SNextLeaf_any B1 m1 d1 zs (a : Int) (by omega) _ I1.out).mono ?_
      rw [EN.out, e1.out]
      rintro e w3 ⟨rfl, N3a⟩
      have s3 := N3a.le
      have I1 := Lib.hid (I1.out.new N3a)
      have N3 := Lib.hid (N2.out.trans N3a); clear N3a
      go_wp2_with fail
      refine (SNextLeaf_any B1 m1 d1 zs (a : Int) (by omega) _ I1.out).mono ?_
      rw [EN.out, e1.out]
      rintro e w4 ⟨rfl, N4a⟩
      have s4 := N4a.le
      have I1 := Lib.hid (I1.out.new N4a)
      have N4 := Lib.hid (N3.out.trans N4a); clear N4a
      go_wp2
      go_ret
      exact ⟨rfl, N4.out⟩
    · replace e1 := Lib.hid e1
      have ql : (a + 1 + u) % m1 < m1 := Nat.mod_lt _ (by omega)
      have HS := Lib.hid hs
      have HK := Lib.hid hk
      generalize hq : (a + 1 + u) % m1 = q at *
      have HQ := Lib.hid hq
      have q0 : (0 : Int) ≤ (q : Int) := by omega
      have q1 : (q : Int) < (m1 : Int) := by omega
      have q2 : decide (m1 ≤ q) = false := decide_eq_false (by omega)
      clear hv hs hk hq
      go_wp2_with fail
      refine (NextLeaf_any B1 m1 d1 zs (a : Int) (by omega) _ I1.out).mono ?_
      rw [EN.out, e1.out]
      rintro e w2 ⟨rfl, N2a⟩
      have s2 := N2a.le
      have I1 := Lib.hid (I1.out.new N2a)
      have N2 := Lib.hid (N1.out.trans N2a); clear N2a
      go_wp2_with fail
      refine (SNextLeaf_any B1 m1 d1 zs (a : Int) (by omega) _ I1.out).mono ?_
      rw [EN.out, e1.out]
      rintro e w3 ⟨rfl, N3a⟩
      have s3 := N3a.le
      have I1 := Lib.hid (I1.out.new N3a)
      have N3 := Lib.hid (N2.out.trans N3a); clear N3a
      have NN := Lib.hid N3.out
      obtain ⟨b, off, rfl, hb, hc⟩ := I1.out.at_ (by omega)
      have HC := Lib.hid hc
      have m16 : (m1 : Int) ≤ 16 := by omega
      have m0 : (1 : Int) ≤ (m1 : Int) := by omega
      have st : (((a : Int) + 1) % (m1 : Int)) = (((a + 1 + 0) % m1 : Nat) : Int) := by rw [Nat.add_zero, Int.natCast_emod]; rfl
      have ST := Lib.hid st
      clear hc st
      go_wp2
      go_loopg [6] m1 (fun kk i wr => wr = w3 ∧ ∃ s : Nat, s ≤ u ∧ u - s ≤ kk ∧ i = .int .i64 (((a + 1 + s) % m1 : Nat) : Int))
      case atStart => exact ⟨rfl, 0, Nat.zero_le _, by omega, by rw [← ST.out]⟩
      case round =>
        obtain ⟨rfl, s, hs, hkk, rfl⟩ := hrel
        have rl : (a + 1 + s) % m1 < m1 := Nat.mod_lt _ (by omega)
        have nx : (((((a + 1 + s) % m1 : Nat) : Int) + 1) % (m1 : Int)) = (((a + 1 + (s + 1)) % m1 : Nat) : Int) := by
          rw [show (((a + 1 + s) % m1 : Nat) : Int) + 1 = (((a + 1 + s) % m1 + 1 : Nat) : Int) by omega, ← Int.natCast_emod, Nat.mod_add_mod]; rfl
        have NX := Lib.hid nx
        by_cases hlt : s < u
        · have hk2 := HS.out s (Nat.zero_le _) hlt
          have g1 := HC.out ((a + 1 + s) % m1 * 9 + 1) (by omega)
          rw [← Nat.add_assoc] at g1
          have hne : (a + 1 + s) % m1 ≠ q := fun e => hk2 (by rw [e]; exact HK.out)
          unfold knd at hk2
          generalize (a + 1 + s) % m1 = r at *
          have r0 : (0 : Int) ≤ (r : Int) := by omega
          have r1 : (r : Int) < (m1 : Int) := by omega
          have rb : ((r : Int) != (q : Int)) = true := by simp; omega
          have rb2 : (r == q) = false := by simpa using hne
          have kb : (zs.getD (r * 9 + 1) 0 == 0) = false := by simpa using hk2
          generalize zs.getD (r * 9 + 1) 0 = kz at *
          clear hk2 hne nx
          go_wp2
          go_roundg (u - (s + 1))
          case measure => omega
          case rel => exact ⟨rfl, s + 1, by omega, by omega, by rw [← NX.out]⟩
        · obtain rfl : s = u := by omega
          have g1 := HC.out (q * 9 + 1) (by omega)
          rw [← Nat.add_assoc, show zs.getD (q * 9 + 1) 0 = 0 from HK.out] at g1
          have hq := HQ.out
          rw [hq]
          clear hq nx
          go_wp2
          go_ret
          exact ⟨rfl, NN.out⟩
  · have hok' : nodeOk m1 zs x = false := by simpa using hok
    clear hok
    have EA := Lib.hid (show nlA m1 zs x = -1 by unfold nlA; rw [hok']; rfl); clear hok'
    go_wp2_with fail
    refine (NextLeaf_any B1 m1 d1 zs x (by omega) _ I1.out).mono ?_
    rw [EA.out]
    rintro e w2 ⟨rfl, N2a⟩
    have s2 := N2a.le
    have I1 := Lib.hid (I1.out.new N2a)
    have N2 := Lib.hid (N1.out.trans N2a); clear N2a
    go_wp2_with fail
    refine (SNextLeaf_any B1 m1 d1 zs x (by omega) _ I1.out).mono ?_
    rw [EA.out]
    rintro e w3 ⟨rfl, N3a⟩
    have s3 := N3a.le
    have I1 := Lib.hid (I1.out.new N3a)
    have N3 := Lib.hid (N2.out.trans N3a); clear N3a
    go_wp2_with fail
    refine (SNextLeaf_any B1 m1 d1 zs x (by omega) _ I1.out).mono ?_
    rw [EA.out]
    rintro e w4 ⟨rfl, N4a⟩
    have s4 := N4a.le
    have I1 := Lib.hid (I1.out.new N4a)
    have N4 := Lib.hid (N3.out.trans N4a); clear N4a
    go_wp2
    go_ret
    exact ⟨rfl, N4.out⟩
end Go.Proofs.Ytohjfddmnhnfjaa
