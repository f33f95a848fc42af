/- Copies of buffers, of the program and of the reference, walked. Conditions: the rows can be read; they are short. -/
import Derived.Test.YtbnelakllfbjiaaBufI
import Derived.Test.YtbnelakllfbjiaaClone
import Derived.Deep.RegionHeld3
namespace Go.Proofs.Ytbnelakllfbjiaa
open Go.RowKit

theorem keepB {w : World} {g : Nat} {a b c : Value} (p : B3 w g a b c) : w.cell? ⟨g, 0, none⟩ = some a ∧ w.cell? ⟨g, 1, none⟩ = some b ∧ w.cell? ⟨g, 2, none⟩ = some c :=
  ⟨p.c0, p.c1, p.c2⟩
set_option maxRecDepth 100000 in
set_option maxHeartbeats 4000000 in
theorem copied_any (A : Option Addr) (n c : Nat) (B : Option Addr) (m d : Nat) (v : Int) (xs ys : List Int) (hn : n ≤ 1000) (hm : m ≤ 1000) (w : World) (hx : Ints w A n xs) (hy : Ints w B m ys) :
    Calls Try.prog 48 #[.agg #[.slice A n c, .slice B m d, .int .i64 v]] w (AnsB w v xs ys) := by
  have HX := Lib.hid hx; have HY := Lib.hid hy; have LX := Lib.hid hx.len; have LY := Lib.hid hy.len
  clear hx hy
  have C1 := Lib.hid (fun W h => cloneInts_any A n c xs hn W h)
  have C2 := Lib.hid (fun W h => cloneInts_any B m d ys hm W h)
  have P := Lib.hid (B3.laid w (.slice A n c) (.slice B m d) (.int .i64 v) 25)
  have Q := Lib.hid (B3.laid_at (k := w.heap.size + 1) (w.alloc (.cells #[.slice A n c, .slice B m d, .int .i64 v] 25)) (.slice none 0 0) (.slice none 0 0) (.int .i64 0) 25 (by simp))
  have N0 := Lib.hid (show New w ((w.alloc (.cells #[.slice A n c, .slice B m d, .int .i64 v] 25)).alloc (.cells #[.slice none 0 0, .slice none 0 0, .int .i64 0] 25)).drew by (repeat (first | exact New.refl _ | assumption | refine New.alloc ?_ _ | refine New.drew ?_ | refine New.drewN ?_ _ | refine New.setCell ?_ (by first | omega | (simp; omega) | (simp; done)) _ | refine New.trans ?_ (by assumption))))
  have P := Lib.hid ((P.out.new ((New.refl _).alloc (.cells #[.slice none 0 0, .slice none 0 0, .int .i64 0] 25))).new ((New.refl _).drew)); have Q := Lib.hid (Q.out.new ((New.refl _).drew))
  have Hz : Hid (((w.alloc (.cells #[.slice A n c, .slice B m d, .int .i64 v] 25)).alloc (.cells #[.slice none 0 0, .slice none 0 0, .int .i64 0] 25)).drew.heap.size = w.heap.size + 1 + 1) := Lib.hid (by simp [World.drew])
  have K0 := keepB P.out
  clear hn hm
  go_enter Try.func48, Try.ntmps48
  go_wp2
  go_region_held3 (fun w' => w'.cell? ⟨w.heap.size, 0, none⟩ = some (.slice A n c) ∧ w'.cell? ⟨w.heap.size, 1, none⟩ = some (.slice B m d) ∧ w'.cell? ⟨w.heap.size, 2, none⟩ = some (.int .i64 v))
    (first | exact K2 | exact K1 | exact K0 | exact K3)
    (first
      | ((go_at_call 72); (refine (C1.out _ (HX.out.new N0.out)).mono ?_); (rintro e w1 ⟨A1, n1, c1, rfl, l1, r1, N1⟩); (have L1 := Lib.hid l1); (have R1 := Lib.hid r1); (have z1 := N1.le); (have P1 := Lib.hid (P.out.new N1)); (have Q1 := Lib.hid (Q.out.new N1)); (have M1 := Lib.hid (N0.out.trans N1)); (have K1 := keepB P1.out); (clear l1 r1 N1))
      | ((go_at_call 72); (refine (C2.out _ (HY.out.new M1.out)).mono ?_); (rintro e w2 ⟨A2, n2, c2, rfl, l2, r2, N2⟩); (have L2 := Lib.hid l2); (have R1 := Lib.hid (R1.out.new N2)); (have R2 := Lib.hid r2); (have z2 := N2.le); (have P2 := Lib.hid (P1.out.new N2)); (have Q2 := Lib.hid (Q1.out.new N2)); (have M2 := Lib.hid (M1.out.trans N2)); (have K2 := keepB P2.out); (have K3 := keepB (((P2.out.far (h := w.heap.size + 1) (o := 0) (by omega) (.slice A1 n1 c1)).far (h := w.heap.size + 1) (o := 1) (by omega) (.slice A2 n2 c2)).far (h := w.heap.size + 1) (o := 2) (by omega) (.int .i64 v))); (obtain ⟨_, q0, q1, q2, g0, g1, g2⟩ := Q2.out); (clear l2 r2 N2)))
  rw [Hz.out] at z1 R1
  clear K0 K1 K2 K3 q0 q1 q2 g0 g1 g2
  go_wp2
  have K := Lib.hid (show Chg (w.heap.size + 1) (w.heap.size + 1 + 1) w2 _ from (((Chg.set w2 (w.heap.size + 1) 0 (.slice A1 n1 c1)).trans (Chg.set _ (w.heap.size + 1) 1 (.slice A2 n2 c2))).trans (Chg.set _ (w.heap.size + 1) 2 (.int .i64 v))))
  have F := Lib.hid (((Q2.out.set0 (.slice A1 n1 c1)).set1 (.slice A2 n2 c2)).set2 (.int .i64 v))
  generalize (((w2.setCell ⟨w.heap.size + 1, 0, none⟩ (.slice A1 n1 c1)).setCell ⟨w.heap.size + 1, 1, none⟩ (.slice A2 n2 c2)).setCell ⟨w.heap.size + 1, 2, none⟩ (.int .i64 v)) = W at K F ⊢
  refine bodyPost_ret (v := .agg #[.slice A1 n1 c1, .slice A2 n2 c2, .int .i64 v]) (by simp [results, Try.results48, go_sem, F.out.c0, F.out.c1, F.out.c2]) rfl ?_
  refine ⟨A1, n1, c1, A2, n2, c2, rfl, L1.out, L2.out, Res2.mk (l1 := w.heap.size + 1 + 1) (h1 := w1.heap.size) (l2 := w1.heap.size) (h2 := w2.heap.size) (by omega) (Nat.le_trans z2 K.out.size) (by omega) K.out.size (.inl (Nat.le_refl _)) (Nat.le_refl _) (R1.out.chg K.out (.inr (Nat.le_refl _))) (R2.out.chg K.out (.inr (by omega))), M2.out.chgs K.out (by omega)⟩
set_option maxRecDepth 100000 in
set_option maxHeartbeats 4000000 in
theorem copyBuffers_any (A : Option Addr) (n c : Nat) (B : Option Addr) (m d : Nat) (v : Int) (xs ys : List Int) (hn : n ≤ 1000) (hm : m ≤ 1000) (w : World) (hx : Ints w A n xs) (hy : Ints w B m ys) :
    Calls Try.prog 57 #[.agg #[.slice A n c, .slice B m d, .int .i64 v]] w (AnsB w v xs ys) := by
  have HX := Lib.hid hx; have HY := Lib.hid hy; have LX := Lib.hid hx.len; have LY := Lib.hid hy.len
  clear hx hy
  have C1 := Lib.hid (fun W h => copyInts_ans A n c xs hn W h)
  have C2 := Lib.hid (fun W h => copyInts_ans B m d ys hm W h)
  have P := Lib.hid (B3.laid w (.slice A n c) (.slice B m d) (.int .i64 v) 25)
  have Q := Lib.hid (B3.laid_at (k := w.heap.size + 1) (w.alloc (.cells #[.slice A n c, .slice B m d, .int .i64 v] 25)) (.slice none 0 0) (.slice none 0 0) (.int .i64 0) 25 (by simp))
  have N0 := Lib.hid (show New w ((w.alloc (.cells #[.slice A n c, .slice B m d, .int .i64 v] 25)).alloc (.cells #[.slice none 0 0, .slice none 0 0, .int .i64 0] 25)).drew by (repeat (first | exact New.refl _ | assumption | refine New.alloc ?_ _ | refine New.drew ?_ | refine New.drewN ?_ _ | refine New.setCell ?_ (by first | omega | (simp; omega) | (simp; done)) _ | refine New.trans ?_ (by assumption))))
  have P := Lib.hid ((P.out.new ((New.refl _).alloc (.cells #[.slice none 0 0, .slice none 0 0, .int .i64 0] 25))).new ((New.refl _).drew)); have Q := Lib.hid (Q.out.new ((New.refl _).drew))
  have Hz : Hid (((w.alloc (.cells #[.slice A n c, .slice B m d, .int .i64 v] 25)).alloc (.cells #[.slice none 0 0, .slice none 0 0, .int .i64 0] 25)).drew.heap.size = w.heap.size + 1 + 1) := Lib.hid (by simp [World.drew])
  have K0 := keepB P.out
  clear hn hm
  go_enter Try.func57, Try.ntmps57
  go_wp2
  go_region_held3 (fun w' => w'.cell? ⟨w.heap.size, 0, none⟩ = some (.slice A n c) ∧ w'.cell? ⟨w.heap.size, 1, none⟩ = some (.slice B m d) ∧ w'.cell? ⟨w.heap.size, 2, none⟩ = some (.int .i64 v))
    (first | exact K2 | exact K1 | exact K0 | exact K3)
    (first
      | ((go_at_call 50); (refine (C1.out _ (HX.out.new N0.out)).mono ?_); (rintro e w1 ⟨A1, n1, c1, rfl, l1, r1, N1⟩); (have L1 := Lib.hid l1); (have R1 := Lib.hid r1); (have z1 := N1.le); (have P1 := Lib.hid (P.out.new N1)); (have Q1 := Lib.hid (Q.out.new N1)); (have M1 := Lib.hid (N0.out.trans N1)); (have K1 := keepB P1.out); (clear l1 r1 N1))
      | ((go_at_call 50); (refine (C2.out _ (HY.out.new M1.out)).mono ?_); (rintro e w2 ⟨A2, n2, c2, rfl, l2, r2, N2⟩); (have L2 := Lib.hid l2); (have R1 := Lib.hid (R1.out.new N2)); (have R2 := Lib.hid r2); (have z2 := N2.le); (have P2 := Lib.hid (P1.out.new N2)); (have Q2 := Lib.hid (Q1.out.new N2)); (have M2 := Lib.hid (M1.out.trans N2)); (have K2 := keepB P2.out); (have K3 := keepB (((P2.out.far (h := w.heap.size + 1) (o := 0) (by omega) (.slice A1 n1 c1)).far (h := w.heap.size + 1) (o := 1) (by omega) (.slice A2 n2 c2)).far (h := w.heap.size + 1) (o := 2) (by omega) (.int .i64 v))); (obtain ⟨_, q0, q1, q2, g0, g1, g2⟩ := Q2.out); (clear l2 r2 N2)))
  rw [Hz.out] at z1 R1
  clear K0 K1 K2 K3 q0 q1 q2 g0 g1 g2
  go_wp2
  have K := Lib.hid (show Chg (w.heap.size + 1) (w.heap.size + 1 + 1) w2 _ from (((Chg.set w2 (w.heap.size + 1) 0 (.slice A1 n1 c1)).trans (Chg.set _ (w.heap.size + 1) 1 (.slice A2 n2 c2))).trans (Chg.set _ (w.heap.size + 1) 2 (.int .i64 v))))
  have F := Lib.hid (((Q2.out.set0 (.slice A1 n1 c1)).set1 (.slice A2 n2 c2)).set2 (.int .i64 v))
  generalize (((w2.setCell ⟨w.heap.size + 1, 0, none⟩ (.slice A1 n1 c1)).setCell ⟨w.heap.size + 1, 1, none⟩ (.slice A2 n2 c2)).setCell ⟨w.heap.size + 1, 2, none⟩ (.int .i64 v)) = W at K F ⊢
  refine bodyPost_ret (v := .agg #[.slice A1 n1 c1, .slice A2 n2 c2, .int .i64 v]) (by simp [results, Try.results57, go_sem, F.out.c0, F.out.c1, F.out.c2]) rfl ?_
  refine ⟨A1, n1, c1, A2, n2, c2, rfl, L1.out, L2.out, Res2.mk (l1 := w.heap.size + 1 + 1) (h1 := w1.heap.size) (l2 := w1.heap.size) (h2 := w2.heap.size) (by omega) (Nat.le_trans z2 K.out.size) (by omega) K.out.size (.inl (Nat.le_refl _)) (Nat.le_refl _) (R1.out.chg K.out (.inr (Nat.le_refl _))) (R2.out.chg K.out (.inr (by omega))), M2.out.chgs K.out (by omega)⟩
end Go.Proofs.Ytbnelakllfbjiaa
