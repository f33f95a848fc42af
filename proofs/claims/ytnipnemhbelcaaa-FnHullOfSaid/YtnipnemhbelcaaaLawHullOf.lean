/- The law FnHullOf, walked: both rectangles are inside their hull, and each side of it is one of theirs. Condition: the code can be read. -/
import Derived.Test.YtnipnemhbelcaaaDraw2
import Derived.Test.YtnipnemhbelcaaaMtP
import Derived.Test.YtnipnemhbelcaaaRectA
import Derived.Deep.Cut
import Derived.Lib.Hide
import Derived.Deep.RegionHeld3
namespace Go.Proofs.Ytnipnemhbelcaaa
open Go.RowKit

theorem allRectD {w : World} {g : Nat} {y0 y1 y2 y3 : Int} (h : Row w g [y0, y1, y2, y3]) : w.cell? ⟨g, 0, none⟩ = some (.int .i64 y0) ∧ w.cell? ⟨g, 1, none⟩ = some (.int .i64 y1) ∧ w.cell? ⟨g, 2, none⟩ = some (.int .i64 y2) ∧ w.cell? ⟨g, 3, none⟩ = some (.int .i64 y3) :=
  ⟨by simpa using h.c 0 (by simp), by simpa using h.c 1 (by simp), by simpa using h.c 2 (by simp), by simpa using h.c 3 (by simp)⟩
theorem orB {x a b : Int} (h : x = a ∨ x = b) : (x == a) = true ∨ (x == a) = false ∧ (x == b) = true := by
  by_cases e : x = a
  · exact .inl (by simpa using e)
  · exact .inr ⟨by simpa using e, by rcases h with h | h; exact absurd h e; simpa using h⟩
set_option maxRecDepth 100000 in
set_option maxHeartbeats 4000000 in
theorem lawHullOf (A : Option Addr) (n c : Nat) (hn : n ≤ maxLen) (hnc : n ≤ c) (w : World) (hb : Bytes w A n) :
    Calls Try.prog 4 #[.slice A n c] w fun e w' => e = .returned (.bool true) ∧ New w w' := by
  have HB := Lib.hid hb; have HM := Lib.hid hn
  clear hb
  unfold maxLen at hn
  by_cases hbig : 1048576 < n
  · go_enter Try.func4, Try.ntmps4
    go_wp2
    go_ret
    exact ⟨rfl, by (repeat (first | exact New.refl _ | assumption | refine New.alloc ?_ _ | refine New.drew ?_ | refine New.drewN ?_ _ | refine New.setCell ?_ (by first | omega | (simp; omega) | (simp; done)) _ | refine New.trans ?_ (by assumption)))⟩
  have hm : (n : Int) ≤ 1048576 := by omega
  have hm0 : (0 : Int) ≤ (n : Int) := by omega
  go_enter Try.func4, Try.ntmps4
  go_wp2_with fail
  refine (DrawHullOf_any A n c HM.out hnc _ HB.out).mono ?_
  rintro e w1 ⟨ax, ay, aw, ah, bx, by', bw, bh, rfl, N1a⟩
  have s1 := N1a.le
  have N1 := Lib.hid ((New.refl w).trans N1a); clear N1a
  have RA := Lib.hid ((Row.oneRect w1 ax ay aw ah 24).new ((New.refl _).alloc (.cells #[.int .i64 bx, .int .i64 by', .int .i64 bw, .int .i64 bh] 24)))
  have RB := Lib.hid (by have h := Row.oneRect (w1.alloc (.cells #[.int .i64 ax, .int .i64 ay, .int .i64 aw, .int .i64 ah] 24)) bx by' bw bh 24; rw [show (w1.alloc (.cells #[.int .i64 ax, .int .i64 ay, .int .i64 aw, .int .i64 ah] 24)).heap.size = w1.heap.size + 1 by simp] at h; exact h)
  have N1 := Lib.hid ((N1.out.alloc (.cells #[.int .i64 ax, .int .i64 ay, .int .i64 aw, .int .i64 ah] 24)).alloc (.cells #[.int .i64 bx, .int .i64 by', .int .i64 bw, .int .i64 bh] 24))
  go_upto_region 4 with fail
  generalize hw2 : (w1.alloc (.cells #[.int .i64 ax, .int .i64 ay, .int .i64 aw, .int .i64 ah] 24)).alloc (.cells #[.int .i64 bx, .int .i64 by', .int .i64 bw, .int .i64 bh] 24) = w2 at N1 RA RB ⊢
  clear hw2
  obtain ⟨q0, H0⟩ : ∃ q, Hid (uA ax ay aw ah bx by' bw bh = q) := ⟨_, Lib.hid rfl⟩
  obtain ⟨q1, H1⟩ : ∃ q, Hid (uB ax ay aw ah bx by' bw bh = q) := ⟨_, Lib.hid rfl⟩
  obtain ⟨q2, H2⟩ : ∃ q, Hid (uC ax ay aw ah bx by' bw bh = q) := ⟨_, Lib.hid rfl⟩
  obtain ⟨q3, H3⟩ : ∃ q, Hid (uD ax ay aw ah bx by' bw bh = q) := ⟨_, Lib.hid rfl⟩
  obtain ⟨t, HT⟩ : ∃ t, Hid (uOk ax ay aw ah bx by' bw bh = t) := ⟨_, Lib.hid rfl⟩
  obtain ⟨a0, a1, a2, a3⟩ := allRectD RA.out
  obtain ⟨b0, b1, b2, b3⟩ := allRectD RB.out
  have za := RA.out.lt; have zb := RB.out.lt
  go_wp2_with fail
  refine (HullOf_any _ _ _ _ _ _ _ _ _).mono ?_
  rw [H0.out, H1.out, H2.out, H3.out, HT.out]
  rintro e w3 ⟨rfl, N3a⟩
  have s3 := N3a.le
  clear a0 a1 a2 a3 b0 b1 b2 b3 za zb
  have RA := Lib.hid (RA.out.new N3a)
  have RB := Lib.hid (RB.out.new N3a)
  have N3 := Lib.hid (N1.out.trans N3a); clear N3a
  have R3 := Lib.hid (Row.oneRect w3 q0 q1 q2 q3 24)
  have RA := Lib.hid (RA.out.new ((New.refl w3).alloc (.cells #[.int .i64 q0, .int .i64 q1, .int .i64 q2, .int .i64 q3] 24)))
  have RB := Lib.hid (RB.out.new ((New.refl w3).alloc (.cells #[.int .i64 q0, .int .i64 q1, .int .i64 q2, .int .i64 q3] 24)))
  have M3 := Lib.hid (N3.out.alloc (.cells #[.int .i64 q0, .int .i64 q1, .int .i64 q2, .int .i64 q3] 24))
  obtain ⟨a0, a1, a2, a3⟩ := allRectD RA.out
  obtain ⟨b0, b1, b2, b3⟩ := allRectD RB.out
  have za := RA.out.lt; have zb := RB.out.lt
  go_wp2_with fail
  refine (SHullOf_any _ _ _ _ _ _ _ _ _).mono ?_
  rw [H0.out, H1.out, H2.out, H3.out, HT.out]
  rintro e w4 ⟨rfl, N4a⟩
  have s4 := N4a.le
  clear a0 a1 a2 a3 b0 b1 b2 b3 za zb
  have RA := Lib.hid (RA.out.new N4a)
  have RB := Lib.hid (RB.out.new N4a)
  have R3 := Lib.hid (R3.out.new N4a)
  have N4 := Lib.hid (M3.out.trans N4a); clear N4a
  have R4 := Lib.hid (Row.oneRect w4 q0 q1 q2 q3 24)
  have RA := Lib.hid (RA.out.new ((New.refl w4).alloc (.cells #[.int .i64 q0, .int .i64 q1, .int .i64 q2, .int .i64 q3] 24)))
  have RB := Lib.hid (RB.out.new ((New.refl w4).alloc (.cells #[.int .i64 q0, .int .i64 q1, .int .i64 q2, .int .i64 q3] 24)))
  have R3 := Lib.hid (R3.out.new ((New.refl w4).alloc (.cells #[.int .i64 q0, .int .i64 q1, .int .i64 q2, .int .i64 q3] 24)))
  have M4 := Lib.hid (N4.out.alloc (.cells #[.int .i64 q0, .int .i64 q1, .int .i64 q2, .int .i64 q3] 24))
  obtain ⟨a0, a1, a2, a3⟩ := allRectD RA.out
  obtain ⟨b0, b1, b2, b3⟩ := allRectD RB.out
  have za := RA.out.lt; have zb := RB.out.lt
  obtain ⟨c0, c1, c2, c3⟩ := allRectD R3.out
  obtain ⟨d0, d1, d2, d3⟩ := allRectD R4.out
  have zg := R3.out.lt; have zs := R4.out.lt
  cases t
  · clear HT H0 H1 H2 H3
    go_wp2
    go_ret
    exact ⟨rfl, M4.out⟩
  have F := hull_side HT.out
  rw [H0.out, H1.out, H2.out, H3.out] at F
  obtain ⟨f0, f1, f2, f3, ia, ib, va, vb, vq⟩ := F
  have IA := Lib.hid (fun V => inside_any ax ay aw ah q0 q1 q2 q3 V va vq)
  have IB := Lib.hid (fun V => inside_any bx by' bw bh q0 q1 q2 q3 V vb vq)
  rw [ia] at IA
  rw [ib] at IB
  obtain ⟨p1, p2, p3, p4, p5, p6, p7, p8⟩ := vR_iff.1 va
  obtain ⟨r1, r2, r3, r4, r5, r6, r7, r8⟩ := vR_iff.1 vb
  obtain ⟨t1, t2, t3, t4, t5, t6, t7, t8⟩ := vR_iff.1 vq
  clear va vb vq ia ib HT H0 H1 H2 H3
  have e0 := orB f0
  have e1 := orB f1
  have e2 := orB f2
  have e3 := orB f3
  have NX := M4.out
  clear f0 f1 f2 f3
  go_upto_region 8 with fail
  simp only [List.append]
  rcases e0 with e0 | ⟨e0, d0⟩
  all_goals rcases e1 with e1 | ⟨e1, d1⟩
  all_goals rcases e2 with e2 | ⟨e2, d2⟩
  all_goals rcases e3 with e3 | ⟨e3, d3⟩
  all_goals
    go_wp2_with (first | (go_at_call 16; with_reducible refine (IA.out _).mono ?_; rintro e wi ⟨rfl, Ni⟩; (have RA := Lib.hid (RA.out.new Ni)); (have RB := Lib.hid (RB.out.new Ni)); (have RQ := Lib.hid (R3.out.new Ni)); (have NI := Lib.hid (NX.trans Ni)); (obtain ⟨b0, b1, b2, b3⟩ := allRectD RB.out); (obtain ⟨c0, c1, c2, c3⟩ := allRectD RQ.out); (obtain ⟨a0, a1, a2, a3⟩ := allRectD RA.out)) | (go_at_call 16; with_reducible refine (IB.out _).mono ?_; rintro e wj ⟨rfl, Nj⟩; (have RA := Lib.hid (RA.out.new Nj)); (have RB := Lib.hid (RB.out.new Nj)); (have RQ := Lib.hid (RQ.out.new Nj)); (have NJ := Lib.hid (NI.out.trans Nj)); (obtain ⟨b0, b1, b2, b3⟩ := allRectD RB.out); (obtain ⟨c0, c1, c2, c3⟩ := allRectD RQ.out); (obtain ⟨a0, a1, a2, a3⟩ := allRectD RA.out)))
    go_ret
    exact ⟨rfl, NJ.out⟩
end Go.Proofs.Ytnipnemhbelcaaa
