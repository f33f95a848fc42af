/- Writing, reading, swapping and dropping of buffers, of the program and of the reference, walked. Condition: the rows can be read. -/
import Derived.Test.YtbnelakllfbjiaaBufC
namespace Go.Proofs.Ytbnelakllfbjiaa
open Go.RowKit

/-- A number, or a list, where a call succeeds. -/
def okV (ok : Bool) (v : Int) : Int := if ok = true then v else 0
def okL (ok : Bool) (xs : List Int) : List Int := if ok = true then xs else []
def inB (n : Nat) (at_ : Int) : Bool := decide (0 ≤ at_ ∧ at_ ≤ (n : Int) - 1)
def numB (z : Int) : Bool := decide (-10000 ≤ z ∧ z ≤ 10000)
def rdOk (v : Int) (xs ys : List Int) (at_ : Int) : Bool := okB v xs ys && inB xs.length at_
def wrOk (v : Int) (xs ys : List Int) (at_ z : Int) : Bool := okB v xs ys && inB xs.length at_ && numB z
def swOk (v : Int) (xs ys : List Int) : Bool := okB v xs ys && !(v == 1000)
theorem okB_len {v : Int} {xs ys : List Int} (h : okB v xs ys = true) : xs.length = ys.length ∧ 1 ≤ xs.length ∧ xs.length ≤ 16 := by
  obtain ⟨h1, h2, _⟩ := okB_iff.1 h
  obtain ⟨h3, h4, _⟩ := cellsB_iff.1 h2
  exact ⟨h1, h3, h4⟩
theorem okB_v {v : Int} {xs ys : List Int} (h : okB v xs ys = true) : 0 ≤ v ∧ v ≤ 1000 := (okB_iff.1 h).2.2.2
theorem inB_iff {n : Nat} {a : Int} : inB n a = true ↔ ∃ k : Nat, k < n ∧ a = k := by
  unfold inB
  rw [decide_eq_true_eq]
  constructor
  · rintro ⟨h1, h2⟩; exact ⟨a.toNat, by omega, by omega⟩
  · rintro ⟨k, h, rfl⟩; omega
set_option maxHeartbeats 1000000 in
theorem hasCell_any (A : Option Addr) (n c : Nat) (B : Option Addr) (m d : Nat) (v : Int) (at_ : Int) (hn : n ≤ 1048576) (w : World) :
    Calls Try.prog 53 #[.agg #[.slice A n c, .slice B m d, .int .i64 v], .int .i64 at_] w fun e w' => e = .returned (.bool (inB n at_)) ∧ New w w' := by
  have n0 : (0 : Int) ≤ (n : Int) := by omega
  have n1 : (n : Int) ≤ 1048576 := by omega
  go_enter Try.func53, Try.ntmps53
  go_wp2_with fail
  refine (within_any _ _ _ _).mono ?_
  rintro e w' ⟨rfl, rfl⟩
  go_wp2
  go_ret
  exact ⟨ret_bool (by unfold inB; simp only [Bool.decide_and]), by (repeat (first | exact New.refl _ | assumption | refine New.alloc ?_ _ | refine New.drew ?_ | refine New.drewN ?_ _ | refine New.setCell ?_ (by first | omega | (simp; omega) | (simp; done)) _ | refine New.trans ?_ (by assumption)))⟩
set_option maxRecDepth 100000 in
set_option maxHeartbeats 1000000 in
theorem WriteCell_ansB (A : Option Addr) (n c : Nat) (B : Option Addr) (m d : Nat) (v : Int) (xs ys : List Int) (at_ z : Int) (hn : n ≤ 1048576) (hm : m ≤ 1048576) (w : World) (hx : Ints w A n xs) (hy : Ints w B m ys) :
    Calls Try.prog 25 #[.agg #[.slice A n c, .slice B m d, .int .i64 v], .int .i64 at_, .int .i64 z] w (AnsBT w (wrOk v xs ys at_ z) (okV (wrOk v xs ys at_ z) v) (okL (wrOk v xs ys at_ z) xs) (okL (wrOk v xs ys at_ z) (ys.set at_.toNat z))) := by
  have N0 := Lib.hid (show New w ((w.alloc (.cells #[.slice A n c, .slice B m d, .int .i64 v] 25)).alloc (.cells #[.slice none 0 0, .slice none 0 0, .int .i64 0] 25)) by (repeat (first | exact New.refl _ | assumption | refine New.alloc ?_ _ | refine New.drew ?_ | refine New.drewN ?_ _ | refine New.setCell ?_ (by first | omega | (simp; omega) | (simp; done)) _ | refine New.trans ?_ (by assumption))))
  have P := Lib.hid ((B3.laid w (.slice A n c) (.slice B m d) (.int .i64 v) 25).new ((New.refl _).alloc (.cells #[.slice none 0 0, .slice none 0 0, .int .i64 0] 25)))
  have Q := Lib.hid (B3.laid_at (k := w.heap.size + 1) (w.alloc (.cells #[.slice A n c, .slice B m d, .int .i64 v] 25)) (.slice none 0 0) (.slice none 0 0) (.int .i64 0) 25 (by simp))
  have HX := Lib.hid (hx.new N0.out); have HY := Lib.hid (hy.new N0.out)
  have lx := hx.len; have ly := hy.len
  have Hz : Hid (((w.alloc (.cells #[.slice A n c, .slice B m d, .int .i64 v] 25)).alloc (.cells #[.slice none 0 0, .slice none 0 0, .int .i64 0] 25)).heap.size = w.heap.size + 1 + 1) := Lib.hid (by simp)
  clear hx hy
  cases hv : okB v xs ys
  · have E : Hid (wrOk v xs ys at_ z = false) := Lib.hid (by unfold wrOk; rw [hv]; rfl)
    clear lx ly
    go_enter Try.func25, Try.ntmps25
    go_wp2_with fail
    refine (ValidBuffers_any A n c B _ d v xs ys hn hm _ HX.out HY.out).mono ?_
    rw [hv]
    rintro e w1 ⟨rfl, N1a⟩
    have P1 := Lib.hid (P.out.new N1a); have Q1 := Lib.hid (Q.out.new N1a)
    have HX1 := Lib.hid (HX.out.new N1a); have HY1 := Lib.hid (HY.out.new N1a)
    have z1 := N1a.le
    rw [Hz.out] at z1
    have N1 := Lib.hid (N0.out.trans N1a); clear N1a
    obtain ⟨_, p01, p11, p21, _, _, _⟩ := P1.out
    obtain ⟨_, q01, q11, q21, g01, g11, g21⟩ := Q1.out
    go_wp2
    have K := Lib.hid (show Chg (w.heap.size + 1) (w.heap.size + 1 + 1) w1 _ from (((Chg.set w1 (w.heap.size + 1) 0 (.slice none 0 0)).trans (Chg.set _ (w.heap.size + 1) 1 (.slice none 0 0))).trans (Chg.set _ (w.heap.size + 1) 2 (.int .i64 0))))
    have F := Lib.hid (((Q1.out.set0 (.slice none 0 0)).set1 (.slice none 0 0)).set2 (.int .i64 0))
    generalize (((w1.setCell ⟨w.heap.size + 1, 0, none⟩ (.slice none 0 0)).setCell ⟨w.heap.size + 1, 1, none⟩ (.slice none 0 0)).setCell ⟨w.heap.size + 1, 2, none⟩ (.int .i64 0)) = W at K F ⊢
    refine bodyPost_ret (v := .tuple #[.agg #[.slice none 0 0, .slice none 0 0, .int .i64 0], .bool false]) (by simp [results, Try.results25, go_sem, F.out.c0, F.out.c1, F.out.c2]) rfl ?_
    rw [E.out]
    exact AnsBT.no rfl (N1.out.chgs K.out (by omega))
  obtain ⟨he, h1, h16⟩ := okB_len hv
  rw [lx, ly] at he
  rw [lx] at h1 h16
  obtain rfl : n = m := he
  have n1 : (1 : Int) ≤ (n : Int) := by omega
  have n16 : (n : Int) ≤ 16 := by omega
  cases hc : inB n at_
  · have E : Hid (wrOk v xs ys at_ z = false) := Lib.hid (by unfold wrOk; rw [lx, hc]; simp)
    clear lx ly
    go_enter Try.func25, Try.ntmps25
    go_wp2_with fail
    refine (ValidBuffers_any A n c B _ d v xs ys hn hm _ HX.out HY.out).mono ?_
    rw [hv]
    rintro e w1 ⟨rfl, N1a⟩
    have P1 := Lib.hid (P.out.new N1a); have Q1 := Lib.hid (Q.out.new N1a)
    have HX1 := Lib.hid (HX.out.new N1a); have HY1 := Lib.hid (HY.out.new N1a)
    have z1 := N1a.le
    rw [Hz.out] at z1
    have N1 := Lib.hid (N0.out.trans N1a); clear N1a
    obtain ⟨_, p01, p11, p21, _, _, _⟩ := P1.out
    obtain ⟨_, q01, q11, q21, g01, g11, g21⟩ := Q1.out
    go_wp2_with fail
    refine (hasCell_any A n c B n d v at_ hn _).mono ?_
    rw [hc]
    rintro e w2 ⟨rfl, N2a⟩
    clear p01 p11 p21 q01 q11 q21 g01 g11 g21
    have P2 := Lib.hid (P1.out.new N2a); have Q2 := Lib.hid (Q1.out.new N2a)
    have HX2 := Lib.hid (HX1.out.new N2a); have HY2 := Lib.hid (HY1.out.new N2a)
    have z2 := N2a.le
    have N2 := Lib.hid (N1.out.trans N2a); clear N2a
    obtain ⟨_, p02, p12, p22, _, _, _⟩ := P2.out
    obtain ⟨_, q02, q12, q22, g02, g12, g22⟩ := Q2.out
    go_wp2
    have K := Lib.hid (show Chg (w.heap.size + 1) (w.heap.size + 1 + 1) w2 _ from (((Chg.set w2 (w.heap.size + 1) 0 (.slice none 0 0)).trans (Chg.set _ (w.heap.size + 1) 1 (.slice none 0 0))).trans (Chg.set _ (w.heap.size + 1) 2 (.int .i64 0))))
    have F := Lib.hid (((Q2.out.set0 (.slice none 0 0)).set1 (.slice none 0 0)).set2 (.int .i64 0))
    generalize (((w2.setCell ⟨w.heap.size + 1, 0, none⟩ (.slice none 0 0)).setCell ⟨w.heap.size + 1, 1, none⟩ (.slice none 0 0)).setCell ⟨w.heap.size + 1, 2, none⟩ (.int .i64 0)) = W at K F ⊢
    refine bodyPost_ret (v := .tuple #[.agg #[.slice none 0 0, .slice none 0 0, .int .i64 0], .bool false]) (by simp [results, Try.results25, go_sem, F.out.c0, F.out.c1, F.out.c2]) rfl ?_
    rw [E.out]
    exact AnsBT.no rfl (N2.out.chgs K.out (by omega))
  cases hn2 : numB z
  · have E : Hid (wrOk v xs ys at_ z = false) := Lib.hid (by unfold wrOk; rw [hn2]; simp)
    clear lx ly
    go_enter Try.func25, Try.ntmps25
    go_wp2_with fail
    refine (ValidBuffers_any A n c B _ d v xs ys hn hm _ HX.out HY.out).mono ?_
    rw [hv]
    rintro e w1 ⟨rfl, N1a⟩
    have P1 := Lib.hid (P.out.new N1a); have Q1 := Lib.hid (Q.out.new N1a)
    have HX1 := Lib.hid (HX.out.new N1a); have HY1 := Lib.hid (HY.out.new N1a)
    have z1 := N1a.le
    rw [Hz.out] at z1
    have N1 := Lib.hid (N0.out.trans N1a); clear N1a
    obtain ⟨_, p01, p11, p21, _, _, _⟩ := P1.out
    obtain ⟨_, q01, q11, q21, g01, g11, g21⟩ := Q1.out
    go_wp2_with fail
    refine (hasCell_any A n c B n d v at_ hn _).mono ?_
    rw [hc]
    rintro e w2 ⟨rfl, N2a⟩
    clear p01 p11 p21 q01 q11 q21 g01 g11 g21
    have P2 := Lib.hid (P1.out.new N2a); have Q2 := Lib.hid (Q1.out.new N2a)
    have HX2 := Lib.hid (HX1.out.new N2a); have HY2 := Lib.hid (HY1.out.new N2a)
    have z2 := N2a.le
    have N2 := Lib.hid (N1.out.trans N2a); clear N2a
    obtain ⟨_, p02, p12, p22, _, _, _⟩ := P2.out
    obtain ⟨_, q02, q12, q22, g02, g12, g22⟩ := Q2.out
    go_wp2_with fail
    refine ((show Calls Try.prog 52 #[.int .i64 z, .int .i64 (-10000), .int .i64 10000] _ (fun e w' => e = .returned (.bool (numB z)) ∧ _ = w') from within_any _ _ _ _)).mono ?_
    rw [hn2]
    rintro e w' ⟨rfl, rfl⟩
    go_wp2
    have K := Lib.hid (show Chg (w.heap.size + 1) (w.heap.size + 1 + 1) w2 _ from (((Chg.set w2 (w.heap.size + 1) 0 (.slice none 0 0)).trans (Chg.set _ (w.heap.size + 1) 1 (.slice none 0 0))).trans (Chg.set _ (w.heap.size + 1) 2 (.int .i64 0))))
    have F := Lib.hid (((Q2.out.set0 (.slice none 0 0)).set1 (.slice none 0 0)).set2 (.int .i64 0))
    generalize (((w2.setCell ⟨w.heap.size + 1, 0, none⟩ (.slice none 0 0)).setCell ⟨w.heap.size + 1, 1, none⟩ (.slice none 0 0)).setCell ⟨w.heap.size + 1, 2, none⟩ (.int .i64 0)) = W at K F ⊢
    refine bodyPost_ret (v := .tuple #[.agg #[.slice none 0 0, .slice none 0 0, .int .i64 0], .bool false]) (by simp [results, Try.results25, go_sem, F.out.c0, F.out.c1, F.out.c2]) rfl ?_
    rw [E.out]
    exact AnsBT.no rfl (N2.out.chgs K.out (by omega))
  have E : Hid (wrOk v xs ys at_ z = true) := Lib.hid (by unfold wrOk; rw [hv, lx, hc, hn2]; rfl)
  obtain ⟨k, hk, rfl⟩ := inB_iff.1 hc
  have k0 : (0 : Int) ≤ (k : Int) := by omega
  have k1 : (k : Int) < (n : Int) := by omega
  have LX := Lib.hid lx; have LY := Lib.hid ly
  clear lx ly
  go_enter Try.func25, Try.ntmps25
  go_wp2_with fail
  refine (ValidBuffers_any A n c B _ d v xs ys hn hm _ HX.out HY.out).mono ?_
  rw [hv]
  rintro e w1 ⟨rfl, N1a⟩
  have P1 := Lib.hid (P.out.new N1a); have Q1 := Lib.hid (Q.out.new N1a)
  have HX1 := Lib.hid (HX.out.new N1a); have HY1 := Lib.hid (HY.out.new N1a)
  have z1 := N1a.le
  rw [Hz.out] at z1
  have N1 := Lib.hid (N0.out.trans N1a); clear N1a
  obtain ⟨_, p01, p11, p21, _, _, _⟩ := P1.out
  obtain ⟨_, q01, q11, q21, g01, g11, g21⟩ := Q1.out
  go_wp2_with fail
  refine (hasCell_any A n c B n d v (k : Int) hn _).mono ?_
  rw [hc]
  rintro e w2 ⟨rfl, N2a⟩
  clear p01 p11 p21 q01 q11 q21 g01 g11 g21
  have P2 := Lib.hid (P1.out.new N2a); have Q2 := Lib.hid (Q1.out.new N2a)
  have HX2 := Lib.hid (HX1.out.new N2a); have HY2 := Lib.hid (HY1.out.new N2a)
  have z2 := N2a.le
  have N2 := Lib.hid (N1.out.trans N2a); clear N2a
  obtain ⟨_, p02, p12, p22, _, _, _⟩ := P2.out
  obtain ⟨_, q02, q12, q22, g02, g12, g22⟩ := Q2.out
  go_wp2_with fail
  refine ((show Calls Try.prog 52 #[.int .i64 z, .int .i64 (-10000), .int .i64 10000] _ (fun e w' => e = .returned (.bool (numB z)) ∧ _ = w') from within_any _ _ _ _)).mono ?_
  rw [hn2]
  rintro e w' ⟨rfl, rfl⟩
  clear hv hc hn2
  go_wp2_with fail
  refine (copied_any A n c B n d v xs ys (by omega) (by omega) _ HX2.out HY2.out).mono ?_
  rintro e u ⟨A3, n3, c3, B3', m3, d3, rfl, l3, k3, ⟨l1, t1, l2, t2, a1, a2, a3, a4, a5, a6, r1, r2⟩, Nu⟩
  clear p02 p12 p22 q02 q12 q22 g02 g12 g22
  obtain rfl : n3 = n := by rw [← l3]; exact LX.out
  obtain rfl : m3 = n3 := by rw [← k3]; exact LY.out
  obtain ⟨gb, rfl, b1, b2, RB⟩ := r2.2 (by have := k3; omega)
  have PU := Lib.hid (P2.out.new Nu); have QU := Lib.hid (Q2.out.new Nu); have zu := Nu.le; have NU := Lib.hid (N2.out.trans Nu)
  have qu := QU.out; obtain ⟨_, q0, q1, q2, g0, g1, g2⟩ := qu
  have cb := RB.c k (by have := k3; omega); have fb := RB.f k (by have := k3; omega); have RB := Lib.hid RB; have R1 := Lib.hid r1; have L3 := Lib.hid l3; have K3 := Lib.hid k3
  have gl : gb < u.heap.size := RB.out.lt; have gne : gb ≠ u.heap.size := (by omega); have gne2 : u.heap.size ≠ gb := (by omega); have gne3 : gb ≠ w.heap.size + 1 := (by omega); have gne4 : w.heap.size + 1 ≠ gb := (by omega)
  have gm1 : w.heap.size + 1 < u.heap.size := (by omega); have gm2 : w.heap.size + 1 ≠ u.heap.size := (by omega); have gm3 : u.heap.size ≠ w.heap.size + 1 := (by omega)
  clear l3 k3 r1 r2 Nu
  generalize ys.getD k 0 = y0 at cb
  go_wp2
  have F := Lib.hid (((((((((B3.far (h := gb) (o := k) (QU.out) (by omega) (.int .i64 z))).set0 (.slice A3 m3 c3))).set1 (.slice (some ⟨gb, 0, none⟩) m3 d3))).set2 (.int .i64 v))).new ((New.refl _).alloc (.cells #[.slice A3 m3 c3, .slice (some ⟨gb, 0, none⟩) m3 d3, .int .i64 v] 25)))
  have RF := Lib.hid (((Row.far ((Row.far ((Row.far (((RB.out).set_ (k := k) (by have := K3.out; omega) z)) (p := ⟨w.heap.size + 1, 0, none⟩) (by first | omega | (simp; omega) | (simp; done)) (.slice A3 m3 c3))) (p := ⟨w.heap.size + 1, 1, none⟩) (by first | omega | (simp; omega) | (simp; done)) (.slice (some ⟨gb, 0, none⟩) m3 d3))) (p := ⟨w.heap.size + 1, 2, none⟩) (by first | omega | (simp; omega) | (simp; done)) (.int .i64 v))).new ((New.refl _).alloc (.cells #[.slice A3 m3 c3, .slice (some ⟨gb, 0, none⟩) m3 d3, .int .i64 v] 25)))
  have NF := Lib.hid (((New.setCell ((New.setCell ((New.setCell ((New.setCell (NU.out) (p := ⟨gb, k, none⟩) (by first | omega | (simp; omega) | (simp; done)) (.int .i64 z))) (p := ⟨w.heap.size + 1, 0, none⟩) (by first | omega | (simp; omega) | (simp; done)) (.slice A3 m3 c3))) (p := ⟨w.heap.size + 1, 1, none⟩) (by first | omega | (simp; omega) | (simp; done)) (.slice (some ⟨gb, 0, none⟩) m3 d3))) (p := ⟨w.heap.size + 1, 2, none⟩) (by first | omega | (simp; omega) | (simp; done)) (.int .i64 v))).alloc (.cells #[.slice A3 m3 c3, .slice (some ⟨gb, 0, none⟩) m3 d3, .int .i64 v] 25))
  have R1 := Lib.hid (Res.new ((Res.chg ((Res.chg ((Res.chg ((Res.chg (R1.out) (Chg.set _ (gb) k (.int .i64 z)) (by omega))) (Chg.set _ (w.heap.size + 1) 0 (.slice A3 m3 c3)) (by omega))) (Chg.set _ (w.heap.size + 1) 1 (.slice (some ⟨gb, 0, none⟩) m3 d3)) (by omega))) (Chg.set _ (w.heap.size + 1) 2 (.int .i64 v)) (by omega))) ((New.refl _).alloc (.cells #[.slice A3 m3 c3, .slice (some ⟨gb, 0, none⟩) m3 d3, .int .i64 v] 25)))
  have zf : u.heap.size ≤ (((((u.setCell ⟨gb, k, none⟩ (.int .i64 z)).setCell ⟨w.heap.size + 1, 0, none⟩ (.slice A3 m3 c3)).setCell ⟨w.heap.size + 1, 1, none⟩ (.slice (some ⟨gb, 0, none⟩) m3 d3)).setCell ⟨w.heap.size + 1, 2, none⟩ (.int .i64 v)).alloc (.cells #[.slice A3 m3 c3, .slice (some ⟨gb, 0, none⟩) m3 d3, .int .i64 v] 25)).heap.size := by simp [World.setCell]
  generalize (((((u.setCell ⟨gb, k, none⟩ (.int .i64 z)).setCell ⟨w.heap.size + 1, 0, none⟩ (.slice A3 m3 c3)).setCell ⟨w.heap.size + 1, 1, none⟩ (.slice (some ⟨gb, 0, none⟩) m3 d3)).setCell ⟨w.heap.size + 1, 2, none⟩ (.int .i64 v)).alloc (.cells #[.slice A3 m3 c3, .slice (some ⟨gb, 0, none⟩) m3 d3, .int .i64 v] 25)) = W at F RF NF R1 zf ⊢
  refine bodyPost_ret (v := .tuple #[.agg #[.slice A3 m3 c3, .slice (some ⟨gb, 0, none⟩) m3 d3, .int .i64 v], .bool true]) (by simp [results, Try.results25, go_sem, F.out.c0, F.out.c1, F.out.c2]) rfl ?_
  rw [E.out]
  exact ⟨A3, m3, c3, some ⟨gb, 0, none⟩, m3, d3, rfl, L3.out, by show (ys.set _ z).length = _; rw [List.length_set]; exact K3.out, Res2.mk (l1 := l1) (h1 := t1) (l2 := gb) (h2 := gb + 1) (by omega) (by omega) (by omega) (by omega) (by omega) (Nat.le_refl _) R1.out ⟨by omega, fun _ => ⟨gb, rfl, Nat.le_refl _, Nat.lt_succ_self _, RF.out⟩⟩, NF.out⟩
set_option maxRecDepth 100000 in
set_option maxHeartbeats 1000000 in
theorem SWriteCell_ansB (A : Option Addr) (n c : Nat) (B : Option Addr) (m d : Nat) (v : Int) (xs ys : List Int) (at_ z : Int) (hn : n ≤ 1048576) (hm : m ≤ 1048576) (w : World) (hx : Ints w A n xs) (hy : Ints w B m ys) :
    Calls Try.prog 27 #[.agg #[.slice A n c, .slice B m d, .int .i64 v], .int .i64 at_, .int .i64 z] w (AnsBT w (wrOk v xs ys at_ z) (okV (wrOk v xs ys at_ z) v) (okL (wrOk v xs ys at_ z) xs) (okL (wrOk v xs ys at_ z) (ys.set at_.toNat z))) := by
  have N0 := Lib.hid (show New w ((w.alloc (.cells #[.slice A n c, .slice B m d, .int .i64 v] 25)).alloc (.cells #[.slice none 0 0, .slice none 0 0, .int .i64 0] 25)) by (repeat (first | exact New.refl _ | assumption | refine New.alloc ?_ _ | refine New.drew ?_ | refine New.drewN ?_ _ | refine New.setCell ?_ (by first | omega | (simp; omega) | (simp; done)) _ | refine New.trans ?_ (by assumption))))
  have P := Lib.hid ((B3.laid w (.slice A n c) (.slice B m d) (.int .i64 v) 25).new ((New.refl _).alloc (.cells #[.slice none 0 0, .slice none 0 0, .int .i64 0] 25)))
  have Q := Lib.hid (B3.laid_at (k := w.heap.size + 1) (w.alloc (.cells #[.slice A n c, .slice B m d, .int .i64 v] 25)) (.slice none 0 0) (.slice none 0 0) (.int .i64 0) 25 (by simp))
  have HX := Lib.hid (hx.new N0.out); have HY := Lib.hid (hy.new N0.out)
  have lx := hx.len; have ly := hy.len
  have Hz : Hid (((w.alloc (.cells #[.slice A n c, .slice B m d, .int .i64 v] 25)).alloc (.cells #[.slice none 0 0, .slice none 0 0, .int .i64 0] 25)).heap.size = w.heap.size + 1 + 1) := Lib.hid (by simp)
  clear hx hy
  cases hv : okB v xs ys
  · have E : Hid (wrOk v xs ys at_ z = false) := Lib.hid (by unfold wrOk; rw [hv]; rfl)
    clear lx ly
    go_enter Try.func27, Try.ntmps27
    go_wp2_with fail
    refine (SValidBuffers_any A n c B _ d v xs ys hn hm _ HX.out HY.out).mono ?_
    rw [hv]
    rintro e w1 ⟨rfl, N1a⟩
    have P1 := Lib.hid (P.out.new N1a); have Q1 := Lib.hid (Q.out.new N1a)
    have HX1 := Lib.hid (HX.out.new N1a); have HY1 := Lib.hid (HY.out.new N1a)
    have z1 := N1a.le
    rw [Hz.out] at z1
    have N1 := Lib.hid (N0.out.trans N1a); clear N1a
    obtain ⟨_, p01, p11, p21, _, _, _⟩ := P1.out
    obtain ⟨_, q01, q11, q21, g01, g11, g21⟩ := Q1.out
    go_wp2
    have K := Lib.hid (show Chg (w.heap.size + 1) (w.heap.size + 1 + 1) w1 _ from (((Chg.set w1 (w.heap.size + 1) 0 (.slice none 0 0)).trans (Chg.set _ (w.heap.size + 1) 1 (.slice none 0 0))).trans (Chg.set _ (w.heap.size + 1) 2 (.int .i64 0))))
    have F := Lib.hid (((Q1.out.set0 (.slice none 0 0)).set1 (.slice none 0 0)).set2 (.int .i64 0))
    generalize (((w1.setCell ⟨w.heap.size + 1, 0, none⟩ (.slice none 0 0)).setCell ⟨w.heap.size + 1, 1, none⟩ (.slice none 0 0)).setCell ⟨w.heap.size + 1, 2, none⟩ (.int .i64 0)) = W at K F ⊢
    refine bodyPost_ret (v := .tuple #[.agg #[.slice none 0 0, .slice none 0 0, .int .i64 0], .bool false]) (by simp [results, Try.results27, go_sem, F.out.c0, F.out.c1, F.out.c2]) rfl ?_
    rw [E.out]
    exact AnsBT.no rfl (N1.out.chgs K.out (by omega))
  obtain ⟨he, h1, h16⟩ := okB_len hv
  rw [lx, ly] at he
  rw [lx] at h1 h16
  obtain rfl : n = m := he
  have n1 : (1 : Int) ≤ (n : Int) := by omega
  have n16 : (n : Int) ≤ 16 := by omega
  cases hc : inB n at_
  · have E : Hid (wrOk v xs ys at_ z = false) := Lib.hid (by unfold wrOk; rw [lx, hc]; simp)
    clear lx ly
    go_enter Try.func27, Try.ntmps27
    go_wp2_with fail
    refine (SValidBuffers_any A n c B _ d v xs ys hn hm _ HX.out HY.out).mono ?_
    rw [hv]
    rintro e w1 ⟨rfl, N1a⟩
    have P1 := Lib.hid (P.out.new N1a); have Q1 := Lib.hid (Q.out.new N1a)
    have HX1 := Lib.hid (HX.out.new N1a); have HY1 := Lib.hid (HY.out.new N1a)
    have z1 := N1a.le
    rw [Hz.out] at z1
    have N1 := Lib.hid (N0.out.trans N1a); clear N1a
    obtain ⟨_, p01, p11, p21, _, _, _⟩ := P1.out
    obtain ⟨_, q01, q11, q21, g01, g11, g21⟩ := Q1.out
    go_wp2_with fail
    refine ((show Calls Try.prog 56 #[.int .i64 at_, .int .i64 0, .int .i64 ((n : Int) - 1)] _ (fun e w' => e = .returned (.bool (inB n at_)) ∧ _ = w') from inRange_any _ _ _ _)).mono ?_
    rw [hc]
    rintro e w' ⟨rfl, rfl⟩
    go_wp2
    have K := Lib.hid (show Chg (w.heap.size + 1) (w.heap.size + 1 + 1) w1 _ from (((Chg.set w1 (w.heap.size + 1) 0 (.slice none 0 0)).trans (Chg.set _ (w.heap.size + 1) 1 (.slice none 0 0))).trans (Chg.set _ (w.heap.size + 1) 2 (.int .i64 0))))
    have F := Lib.hid (((Q1.out.set0 (.slice none 0 0)).set1 (.slice none 0 0)).set2 (.int .i64 0))
    generalize (((w1.setCell ⟨w.heap.size + 1, 0, none⟩ (.slice none 0 0)).setCell ⟨w.heap.size + 1, 1, none⟩ (.slice none 0 0)).setCell ⟨w.heap.size + 1, 2, none⟩ (.int .i64 0)) = W at K F ⊢
    refine bodyPost_ret (v := .tuple #[.agg #[.slice none 0 0, .slice none 0 0, .int .i64 0], .bool false]) (by simp [results, Try.results27, go_sem, F.out.c0, F.out.c1, F.out.c2]) rfl ?_
    rw [E.out]
    exact AnsBT.no rfl (N1.out.chgs K.out (by omega))
  cases hn2 : numB z
  · have E : Hid (wrOk v xs ys at_ z = false) := Lib.hid (by unfold wrOk; rw [hn2]; simp)
    clear lx ly
    go_enter Try.func27, Try.ntmps27
    go_wp2_with fail
    refine (SValidBuffers_any A n c B _ d v xs ys hn hm _ HX.out HY.out).mono ?_
    rw [hv]
    rintro e w1 ⟨rfl, N1a⟩
    have P1 := Lib.hid (P.out.new N1a); have Q1 := Lib.hid (Q.out.new N1a)
    have HX1 := Lib.hid (HX.out.new N1a); have HY1 := Lib.hid (HY.out.new N1a)
    have z1 := N1a.le
    rw [Hz.out] at z1
    have N1 := Lib.hid (N0.out.trans N1a); clear N1a
    obtain ⟨_, p01, p11, p21, _, _, _⟩ := P1.out
    obtain ⟨_, q01, q11, q21, g01, g11, g21⟩ := Q1.out
    go_wp2_with fail
    refine ((show Calls Try.prog 56 #[.int .i64 at_, .int .i64 0, .int .i64 ((n : Int) - 1)] _ (fun e w' => e = .returned (.bool (inB n at_)) ∧ _ = w') from inRange_any _ _ _ _)).mono ?_
    rw [hc]
    rintro e w' ⟨rfl, rfl⟩
    go_wp2_with fail
    refine ((show Calls Try.prog 56 #[.int .i64 z, .int .i64 (-10000), .int .i64 10000] _ (fun e w' => e = .returned (.bool (numB z)) ∧ _ = w') from inRange_any _ _ _ _)).mono ?_
    rw [hn2]
    rintro e w' ⟨rfl, rfl⟩
    go_wp2
    have K := Lib.hid (show Chg (w.heap.size + 1) (w.heap.size + 1 + 1) w1 _ from (((Chg.set w1 (w.heap.size + 1) 0 (.slice none 0 0)).trans (Chg.set _ (w.heap.size + 1) 1 (.slice none 0 0))).trans (Chg.set _ (w.heap.size + 1) 2 (.int .i64 0))))
    have F := Lib.hid (((Q1.out.set0 (.slice none 0 0)).set1 (.slice none 0 0)).set2 (.int .i64 0))
    generalize (((w1.setCell ⟨w.heap.size + 1, 0, none⟩ (.slice none 0 0)).setCell ⟨w.heap.size + 1, 1, none⟩ (.slice none 0 0)).setCell ⟨w.heap.size + 1, 2, none⟩ (.int .i64 0)) = W at K F ⊢
    refine bodyPost_ret (v := .tuple #[.agg #[.slice none 0 0, .slice none 0 0, .int .i64 0], .bool false]) (by simp [results, Try.results27, go_sem, F.out.c0, F.out.c1, F.out.c2]) rfl ?_
    rw [E.out]
    exact AnsBT.no rfl (N1.out.chgs K.out (by omega))
  have E : Hid (wrOk v xs ys at_ z = true) := Lib.hid (by unfold wrOk; rw [hv, lx, hc, hn2]; rfl)
  obtain ⟨k, hk, rfl⟩ := inB_iff.1 hc
  have k0 : (0 : Int) ≤ (k : Int) := by omega
  have k1 : (k : Int) < (n : Int) := by omega
  have LX := Lib.hid lx; have LY := Lib.hid ly
  clear lx ly
  go_enter Try.func27, Try.ntmps27
  go_wp2_with fail
  refine (SValidBuffers_any A n c B _ d v xs ys hn hm _ HX.out HY.out).mono ?_
  rw [hv]
  rintro e w1 ⟨rfl, N1a⟩
  have P1 := Lib.hid (P.out.new N1a); have Q1 := Lib.hid (Q.out.new N1a)
  have HX1 := Lib.hid (HX.out.new N1a); have HY1 := Lib.hid (HY.out.new N1a)
  have z1 := N1a.le
  rw [Hz.out] at z1
  have N1 := Lib.hid (N0.out.trans N1a); clear N1a
  obtain ⟨_, p01, p11, p21, _, _, _⟩ := P1.out
  obtain ⟨_, q01, q11, q21, g01, g11, g21⟩ := Q1.out
  go_wp2_with fail
  refine ((show Calls Try.prog 56 #[.int .i64 (k : Int), .int .i64 0, .int .i64 ((n : Int) - 1)] _ (fun e w' => e = .returned (.bool (inB n (k : Int))) ∧ _ = w') from inRange_any _ _ _ _)).mono ?_
  rw [hc]
  rintro e w' ⟨rfl, rfl⟩
  go_wp2_with fail
  refine ((show Calls Try.prog 56 #[.int .i64 z, .int .i64 (-10000), .int .i64 10000] _ (fun e w' => e = .returned (.bool (numB z)) ∧ _ = w') from inRange_any _ _ _ _)).mono ?_
  rw [hn2]
  rintro e w' ⟨rfl, rfl⟩
  clear hv hc hn2
  go_wp2_with fail
  refine (copyBuffers_any A n c B n d v xs ys (by omega) (by omega) _ HX1.out HY1.out).mono ?_
  rintro e u ⟨A3, n3, c3, B3', m3, d3, rfl, l3, k3, ⟨l1, t1, l2, t2, a1, a2, a3, a4, a5, a6, r1, r2⟩, Nu⟩
  clear p01 p11 p21 q01 q11 q21 g01 g11 g21
  obtain rfl : n3 = n := by rw [← l3]; exact LX.out
  obtain rfl : m3 = n3 := by rw [← k3]; exact LY.out
  obtain ⟨gb, rfl, b1, b2, RB⟩ := r2.2 (by have := k3; omega)
  have PU := Lib.hid (P1.out.new Nu); have QU := Lib.hid (Q1.out.new Nu); have zu := Nu.le; have NU := Lib.hid (N1.out.trans Nu)
  have qu := QU.out; obtain ⟨_, q0, q1, q2, g0, g1, g2⟩ := qu
  have cb := RB.c k (by have := k3; omega); have fb := RB.f k (by have := k3; omega); have RB := Lib.hid RB; have R1 := Lib.hid r1; have L3 := Lib.hid l3; have K3 := Lib.hid k3
  have gl : gb < u.heap.size := RB.out.lt; have gne : gb ≠ u.heap.size := (by omega); have gne2 : u.heap.size ≠ gb := (by omega); have gne3 : gb ≠ w.heap.size + 1 := (by omega); have gne4 : w.heap.size + 1 ≠ gb := (by omega)
  have gm1 : w.heap.size + 1 < u.heap.size := (by omega); have gm2 : w.heap.size + 1 ≠ u.heap.size := (by omega); have gm3 : u.heap.size ≠ w.heap.size + 1 := (by omega)
  clear l3 k3 r1 r2 Nu
  generalize ys.getD k 0 = y0 at cb
  go_wp2
  have F := Lib.hid (((((((((B3.far (h := gb) (o := k) (QU.out) (by omega) (.int .i64 z))).set0 (.slice A3 m3 c3))).set1 (.slice (some ⟨gb, 0, none⟩) m3 d3))).set2 (.int .i64 v))).new ((New.refl _).alloc (.cells #[.slice A3 m3 c3, .slice (some ⟨gb, 0, none⟩) m3 d3, .int .i64 v] 25)))
  have RF := Lib.hid (((Row.far ((Row.far ((Row.far (((RB.out).set_ (k := k) (by have := K3.out; omega) z)) (p := ⟨w.heap.size + 1, 0, none⟩) (by first | omega | (simp; omega) | (simp; done)) (.slice A3 m3 c3))) (p := ⟨w.heap.size + 1, 1, none⟩) (by first | omega | (simp; omega) | (simp; done)) (.slice (some ⟨gb, 0, none⟩) m3 d3))) (p := ⟨w.heap.size + 1, 2, none⟩) (by first | omega | (simp; omega) | (simp; done)) (.int .i64 v))).new ((New.refl _).alloc (.cells #[.slice A3 m3 c3, .slice (some ⟨gb, 0, none⟩) m3 d3, .int .i64 v] 25)))
  have NF := Lib.hid (((New.setCell ((New.setCell ((New.setCell ((New.setCell (NU.out) (p := ⟨gb, k, none⟩) (by first | omega | (simp; omega) | (simp; done)) (.int .i64 z))) (p := ⟨w.heap.size + 1, 0, none⟩) (by first | omega | (simp; omega) | (simp; done)) (.slice A3 m3 c3))) (p := ⟨w.heap.size + 1, 1, none⟩) (by first | omega | (simp; omega) | (simp; done)) (.slice (some ⟨gb, 0, none⟩) m3 d3))) (p := ⟨w.heap.size + 1, 2, none⟩) (by first | omega | (simp; omega) | (simp; done)) (.int .i64 v))).alloc (.cells #[.slice A3 m3 c3, .slice (some ⟨gb, 0, none⟩) m3 d3, .int .i64 v] 25))
  have R1 := Lib.hid (Res.new ((Res.chg ((Res.chg ((Res.chg ((Res.chg (R1.out) (Chg.set _ (gb) k (.int .i64 z)) (by omega))) (Chg.set _ (w.heap.size + 1) 0 (.slice A3 m3 c3)) (by omega))) (Chg.set _ (w.heap.size + 1) 1 (.slice (some ⟨gb, 0, none⟩) m3 d3)) (by omega))) (Chg.set _ (w.heap.size + 1) 2 (.int .i64 v)) (by omega))) ((New.refl _).alloc (.cells #[.slice A3 m3 c3, .slice (some ⟨gb, 0, none⟩) m3 d3, .int .i64 v] 25)))
  have zf : u.heap.size ≤ (((((u.setCell ⟨gb, k, none⟩ (.int .i64 z)).setCell ⟨w.heap.size + 1, 0, none⟩ (.slice A3 m3 c3)).setCell ⟨w.heap.size + 1, 1, none⟩ (.slice (some ⟨gb, 0, none⟩) m3 d3)).setCell ⟨w.heap.size + 1, 2, none⟩ (.int .i64 v)).alloc (.cells #[.slice A3 m3 c3, .slice (some ⟨gb, 0, none⟩) m3 d3, .int .i64 v] 25)).heap.size := by simp [World.setCell]
  generalize (((((u.setCell ⟨gb, k, none⟩ (.int .i64 z)).setCell ⟨w.heap.size + 1, 0, none⟩ (.slice A3 m3 c3)).setCell ⟨w.heap.size + 1, 1, none⟩ (.slice (some ⟨gb, 0, none⟩) m3 d3)).setCell ⟨w.heap.size + 1, 2, none⟩ (.int .i64 v)).alloc (.cells #[.slice A3 m3 c3, .slice (some ⟨gb, 0, none⟩) m3 d3, .int .i64 v] 25)) = W at F RF NF R1 zf ⊢
  refine bodyPost_ret (v := .tuple #[.agg #[.slice A3 m3 c3, .slice (some ⟨gb, 0, none⟩) m3 d3, .int .i64 v], .bool true]) (by simp [results, Try.results27, go_sem, F.out.c0, F.out.c1, F.out.c2]) rfl ?_
  rw [E.out]
  exact ⟨A3, m3, c3, some ⟨gb, 0, none⟩, m3, d3, rfl, L3.out, by show (ys.set _ z).length = _; rw [List.length_set]; exact K3.out, Res2.mk (l1 := l1) (h1 := t1) (l2 := gb) (h2 := gb + 1) (by omega) (by omega) (by omega) (by omega) (by omega) (Nat.le_refl _) R1.out ⟨by omega, fun _ => ⟨gb, rfl, Nat.le_refl _, Nat.lt_succ_self _, RF.out⟩⟩, NF.out⟩
end Go.Proofs.Ytbnelakllfbjiaa
