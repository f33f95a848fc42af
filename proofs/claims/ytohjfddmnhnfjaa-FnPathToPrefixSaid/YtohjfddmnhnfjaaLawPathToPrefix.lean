/- The law FnPathToPrefix, walked: a path without its last box is the path to the box that this is in. Condition: the code can be read. -/
import Derived.Test.YtohjfddmnhnfjaaDrawPt
import Derived.Test.YtohjfddmnhnfjaaPathP
import Derived.Deep.RegionHeld3
namespace Go.Proofs.Ytohjfddmnhnfjaa
open Go.RowKit

set_option maxHeartbeats 4000000 in
theorem lawPathToPrefix (A : Option Addr) (n c : Nat) (hn : n ≤ maxLen) (hnc : n ≤ c) (w : World) (hb : Bytes w A n) :
    Calls Try.prog 8 #[.slice A n c] w fun e w' => e = .returned (.bool true) ∧ New w w' := by
  have HB := Lib.hid hb; have HM := Lib.hid hn
  clear hb
  unfold maxLen at hn
  by_cases hbig : 1048576 < n
  · go_enter Try.func8, Try.ntmps8
    go_wp2
    go_ret
    exact ⟨rfl, by (repeat (first | exact New.refl _ | assumption | refine New.alloc ?_ _ | refine New.drew ?_ | refine New.drewN ?_ _ | refine New.setCell ?_ (by first | omega | (simp; omega) | (simp; done)) _ | refine New.trans ?_ (by assumption)))⟩
  have hm : (n : Int) ≤ 1048576 := by omega
  have hm0 : (0 : Int) ≤ (n : Int) := by omega
  go_enter Try.func8, Try.ntmps8
  go_wp2_with fail
  refine (DrawPathTo_any A n c HM.out hnc _ HB.out).mono ?_
  rintro e w1 ⟨B1, m1, d1, zs, x, rfl, I1, l1, kd, xb, N1a⟩
  have s1 := N1a.le
  have N1 := Lib.hid ((New.refl w).trans N1a); clear N1a
  replace I1 := Lib.hid I1
  by_cases hok : nodeOk m1 zs x = true
  · obtain ⟨hv, a, rfl, ha⟩ := nodeOk_iff.1 hok
    have HV := Lib.hid hv; have v1 := (vtB_iff.1 hv).1
    have a0 : (0 : Int) ≤ (a : Int) := by omega
    have a1 : (a : Int) < (m1 : Int) := by omega
    clear hok xb
    have LP0 := pathA_size hv ha
    have d5 := dep_le5 hv ha
    obtain ⟨np, hnp⟩ : ∃ np, dep zs a + 1 = np := ⟨_, rfl⟩
    rw [hnp] at LP0
    have LP := Lib.hid LP0
    have np1 : (1 : Int) ≤ (np : Int) := by omega
    have np6 : (np : Int) ≤ 6 := by omega
    have npb : ((np : Int) == 0) = false := by simp; omega
    have PE := Lib.hid (pathA_at hv ha)
    have PN := Lib.hid (fun d (hd : d + 1 < np) => path_next (link_vt hv) ha (d := d) (by rw [path_len]; omega))
    have P0 := Lib.hid (path_first (link_vt hv) ha)
    have P9 := Lib.hid (path_last zs a)
    have npd : (np : Int) - 1 = ((dep zs a : Nat) : Int) := by omega
    rcases Nat.eq_zero_or_pos a with h0 | h0
    · subst h0
      have np2 : (np : Int) < 2 := by have := dep_root (link_vt hv) ha; omega
      clear hv hnp d5 npd LP0
      go_wp2_with fail
      refine (PathTo_ansN B1 m1 d1 zs ((0 : Nat) : Int) (by omega) _ I1.out).mono ?_
      rintro e w2 ⟨A2, n2, c2, rfl, l2, k2, r2, N2a⟩
      have s2 := N2a.le
      have I1 := Lib.hid (I1.out.new N2a)
      have N2 := Lib.hid (N1.out.trans N2a); clear N2a
      obtain rfl : np = n2 := by have := LP.out; omega
      have R2 := Lib.hid r2; clear l2 r2
      go_wp2_with fail
      refine (SPathTo_ans B1 m1 d1 zs ((0 : Nat) : Int) (by omega) _ I1.out).mono ?_
      rintro e w3 ⟨A3, n3, c3, rfl, l3, r3, N3a⟩
      have s3 := N3a.le
      have I1 := Lib.hid (I1.out.new N3a)
      have R2 := Lib.hid (R2.out.new N3a)
      have N3 := Lib.hid (N2.out.trans N3a); clear N3a
      obtain rfl : np = n3 := by have := LP.out; omega
      have R3 := Lib.hid r3; clear l3 r3
      go_wp2_with fail
      refine (equalInts_any _ _ np np _ _ _ _ (by omega) (by omega) _ (R2.out.ints LP.out) (R3.out.ints LP.out)).mono ?_
      rw [decide_eq_true rfl]
      rintro e w4 ⟨rfl, N4a⟩
      have s4 := N4a.le
      have I1 := Lib.hid (I1.out.new N4a)
      have R2 := Lib.hid (R2.out.new N4a)
      have R3 := Lib.hid (R3.out.new N4a)
      have N4 := Lib.hid (N3.out.trans N4a); clear N4a
      go_wp2_with fail
      refine (SPathTo_ans B1 m1 d1 zs ((0 : Nat) : Int) (by omega) _ I1.out).mono ?_
      rintro e w5 ⟨A5, n5, c5, rfl, l5, r5, N5a⟩
      have s5 := N5a.le
      have I1 := Lib.hid (I1.out.new N5a)
      have R2 := Lib.hid (R2.out.new N5a)
      have R3 := Lib.hid (R3.out.new N5a)
      have N5 := Lib.hid (N4.out.trans N5a); clear N5a
      obtain rfl : np = n5 := by have := LP.out; omega
      have R5 := Lib.hid r5; clear l5 r5
      go_wp2_with fail
      refine (equalInts_any _ _ np np _ _ _ _ (by omega) (by omega) _ (R2.out.ints LP.out) (R5.out.ints LP.out)).mono ?_
      rw [decide_eq_true rfl]
      rintro e w6 ⟨rfl, N6a⟩
      have s6 := N6a.le
      have I1 := Lib.hid (I1.out.new N6a)
      have R2 := Lib.hid (R2.out.new N6a)
      have R3 := Lib.hid (R3.out.new N6a)
      have R5 := Lib.hid (R5.out.new N6a)
      have N6 := Lib.hid (N5.out.trans N6a); clear N6a
      go_wp2
      go_ret
      exact ⟨rfl, N6.out⟩
    · obtain ⟨p, e, hp⟩ := par_bd hv ha h0
      have ep := path_par e hp
      have lp := path_len zs p
      have np2 : (2 : Int) ≤ (np : Int) := by have := dep_par e hp; omega
      obtain ⟨q, hq⟩ : ∃ q, q = dep zs p := ⟨_, rfl⟩
      have nq : np = q + 2 := by have := dep_par e hp; omega
      have EP := Lib.hid (pathA_at hv (show p < m1 by omega))
      have LQ : Hid ((pathA m1 zs (p : Int)).length = q + 1) := Lib.hid (by rw [EP.out, List.length_map, lp, hq])
      have TK : Hid ((pathA m1 zs (a : Int)).take (q + 1) = pathA m1 zs (p : Int)) := Lib.hid (by
        rw [PE.out, EP.out, ep, List.map_append, List.take_left' (by rw [List.length_map, lp, hq])])
      have GQ : Hid ((pathA m1 zs (a : Int)).getD q 0 = (p : Int)) := Lib.hid (by
        rw [PE.out, getD_map, ep, gd_app1 (by omega), hq, path_last])
      have nq2 : (np : Int) - 2 = (q : Int) := by omega
      have nq1 : (np : Int) - 1 = (q : Int) + 1 := by omega
      have NQ2 := Lib.hid nq2; have NQ1 := Lib.hid nq1; have NQ := Lib.hid nq
      clear hv hnp d5 npd LP0 e hp ep lp hq h0 nq2 nq1 nq
      go_wp2_with fail
      refine (PathTo_ansN B1 m1 d1 zs (a : Int) (by omega) _ I1.out).mono ?_
      rintro e w2 ⟨A2, n2, c2, rfl, l2, k2, r2, N2a⟩
      have s2 := N2a.le
      have I1 := Lib.hid (I1.out.new N2a)
      have N2 := Lib.hid (N1.out.trans N2a); clear N2a
      obtain rfl : np = n2 := by have := LP.out; omega
      have R2 := Lib.hid r2; clear l2 r2
      go_wp2_with fail
      refine (SPathTo_ans B1 m1 d1 zs (a : Int) (by omega) _ I1.out).mono ?_
      rintro e w3 ⟨A3, n3, c3, rfl, l3, r3, N3a⟩
      have s3 := N3a.le
      have I1 := Lib.hid (I1.out.new N3a)
      have R2 := Lib.hid (R2.out.new N3a)
      have N3 := Lib.hid (N2.out.trans N3a); clear N3a
      obtain rfl : np = n3 := by have := LP.out; omega
      have R3 := Lib.hid r3; clear l3 r3
      go_wp2_with fail
      refine (equalInts_any _ _ np np _ _ _ _ (by omega) (by omega) _ (R2.out.ints LP.out) (R3.out.ints LP.out)).mono ?_
      rw [decide_eq_true rfl]
      rintro e w4 ⟨rfl, N4a⟩
      have s4 := N4a.le
      have I1 := Lib.hid (I1.out.new N4a)
      have R2 := Lib.hid (R2.out.new N4a)
      have R3 := Lib.hid (R3.out.new N4a)
      have N4 := Lib.hid (N3.out.trans N4a); clear N4a
      have NN := Lib.hid N4.out
      obtain ⟨b', off', e0, hb', hc'⟩ := (R2.out.ints LP.out).at_ (by omega)
      subst e0
      have g1 := hc' q (by have := NQ.out; omega)
      rw [GQ.out] at g1
      have IP := Lib.hid ((R2.out.ints LP.out).pref (k := q + 1) (by have := NQ.out; omega))
      rw [TK.out] at IP
      have W0 : ∀ W', New w4.drew W' → W'.cell? ⟨b', off' + q, none⟩ = some (.int .i64 (p : Int)) := fun W' h => (h.cells _ _ hb').trans g1
      have HW0 := Lib.hid W0
      have I3 := Lib.hid (I1.out.new (New.refl w4).drew)
      have K1 : w4.drew.cell? ⟨b', off' + q, none⟩ = some (.int .i64 (p : Int)) := g1
      have q0 : (0 : Int) ≤ (q : Int) := by omega
      have q1 : (q : Int) + 1 ≤ 16 := by have := NQ1.out; omega
      have q2 : (q : Int) < (np : Int) := by have := NQ1.out; omega
      have q3 : (q : Int) + 1 ≤ (c2 : Int) := by have := NQ1.out; have := k2; omega
      have q5 : (0 : Int) ≤ (q : Int) + 1 := by omega
      have q6 : (np : Int) ≤ (c2 : Int) := by omega
      have q7 : (c2 : Int) ≤ (c2 : Int) := by omega
      have w1_ : IntKind.i64.wrap (q : Int) = (q : Int) := IntWalk.i64_in _ (by omega)
      have w2_ : IntKind.i64.wrap ((q : Int) + 1) = (q : Int) + 1 := IntWalk.i64_in _ (by omega)
      have w3_ : ((q : Int) + 1).toNat = q + 1 := by omega
      have nq2 := NQ2.out
      have nq1 := NQ1.out
      clear hc' W0 g1
      go_wp2
      go_region_held3 (fun w' => w'.cell? ⟨b', off' + q, none⟩ = some (.int .i64 (p : Int)))
        (first | exact K1 | exact K2 | exact K3 | assumption)
        (first
          | (go_at_call 18; refine (PathTo_ans B1 m1 d1 zs (p : Int) (by omega) _ I3.out).mono ?_; rintro e wc ⟨A9, n9, c9, rfl, l9, r9, Nc⟩; (have K2 := HW0.out wc Nc); (obtain rfl : q + 1 = n9 := by have := LQ.out; omega); (have R9 := Lib.hid r9); clear l9 r9; (have IQ := Lib.hid (IP.out.new ((New.refl _).drew.trans Nc))); (replace Nc := Lib.hid ((New.refl w4).drew.trans Nc)))
          | (go_at_call 29; refine (equalInts_any _ _ (q + 1) (q + 1) _ _ _ _ (by omega) (by omega) _ (R9.out.ints LQ.out) IQ.out).mono ?_; (rw [decide_eq_true rfl]); rintro e wd ⟨rfl, Nd⟩; (have K3 := HW0.out wd ((Lib.hid Nd).out |> fun h => (show New w4.drew wd from ⟨(Nc.out.trans h).os, (Nc.out.trans h).tape, (Nc.out.trans h).output, (Nc.out.trans h).size, (Nc.out.trans h).block⟩))); (replace Nd := Lib.hid (Nc.out.trans Nd))))
      go_wp2
      go_ret
      exact ⟨rfl, NN.out.trans Nd.out⟩
  · have hok' : nodeOk m1 zs x = false := by simpa using hok
    clear hok
    have LZ : Hid ((pathA m1 zs x).length = 0) := Lib.hid (by rw [pathA_no hok']; rfl)
    clear hok'
    go_wp2_with fail
    refine (PathTo_ans B1 m1 d1 zs x (by omega) _ I1.out).mono ?_
    rintro e w2 ⟨A2, n2, c2, rfl, l2, r2, N2a⟩
    have s2 := N2a.le
    have I1 := Lib.hid (I1.out.new N2a)
    have N2 := Lib.hid (N1.out.trans N2a); clear N2a
    obtain rfl : n2 = 0 := by rw [← l2]; exact LZ.out
    have R2 := Lib.hid r2; clear l2 r2
    go_wp2_with fail
    refine (SPathTo_ans B1 m1 d1 zs x (by omega) _ I1.out).mono ?_
    rintro e w3 ⟨A3, n3, c3, rfl, l3, r3, N3a⟩
    have s3 := N3a.le
    have I1 := Lib.hid (I1.out.new N3a)
    have R2 := Lib.hid (R2.out.new N3a)
    have N3 := Lib.hid (N2.out.trans N3a); clear N3a
    obtain rfl : n3 = 0 := by rw [← l3]; exact LZ.out
    have R3 := Lib.hid r3; clear l3 r3
    go_wp2_with fail
    refine (equalInts_any _ _ 0 0 _ _ _ _ (by omega) (by omega) _ (R2.out.ints LZ.out) (R3.out.ints LZ.out)).mono ?_
    rw [decide_eq_true rfl]
    rintro e w4 ⟨rfl, N4a⟩
    have s4 := N4a.le
    have I1 := Lib.hid (I1.out.new N4a)
    have R2 := Lib.hid (R2.out.new N4a)
    have R3 := Lib.hid (R3.out.new N4a)
    have N4 := Lib.hid (N3.out.trans N4a); clear N4a
    go_wp2_with fail
    refine (SPathTo_ans B1 m1 d1 zs x (by omega) _ I1.out).mono ?_
    rintro e w5 ⟨A5, n5, c5, rfl, l5, r5, N5a⟩
    have s5 := N5a.le
    have I1 := Lib.hid (I1.out.new N5a)
    have R2 := Lib.hid (R2.out.new N5a)
    have R3 := Lib.hid (R3.out.new N5a)
    have N5 := Lib.hid (N4.out.trans N5a); clear N5a
    obtain rfl : n5 = 0 := by rw [← l5]; exact LZ.out
    have R5 := Lib.hid r5; clear l5 r5
    go_wp2_with fail
    refine (equalInts_any _ _ 0 0 _ _ _ _ (by omega) (by omega) _ (R2.out.ints LZ.out) (R5.out.ints LZ.out)).mono ?_
    rw [decide_eq_true rfl]
    rintro e w6 ⟨rfl, N6a⟩
    have s6 := N6a.le
    have I1 := Lib.hid (I1.out.new N6a)
    have R2 := Lib.hid (R2.out.new N6a)
    have R3 := Lib.hid (R3.out.new N6a)
    have R5 := Lib.hid (R5.out.new N6a)
    have N6 := Lib.hid (N5.out.trans N6a); clear N6a
    go_wp2
    go_ret
    exact ⟨rfl, N6.out⟩
end Go.Proofs.Ytohjfddmnhnfjaa
