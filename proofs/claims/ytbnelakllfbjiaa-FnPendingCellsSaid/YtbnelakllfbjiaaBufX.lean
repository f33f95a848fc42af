/- Reading, dropping and swapping of buffers, of the program and of the reference, walked. Condition: the rows can be read. -/
import Derived.Test.YtbnelakllfbjiaaBufW
import Derived.Laws.IdiomCopy
namespace Go.Proofs.Ytbnelakllfbjiaa
open Go.RowKit

theorem size_i : (Try.prog.info? 3).map (·.size) = some 1 := by kernel_rfl
/-- A whole row is copied into another one. -/
theorem run_cpRow (w : World) (ty : TypeId) (g n d : Nat) (A : Option Addr) (c : Nat) (xs ys : List Int) (hR : Row w g ys) (hy : ys.length = n) (hx : Ints w A n xs) (h0 : 0 < n) :
    ∃ w', (Builtin.copy_ #[23, 23] ty #[.slice (some ⟨g, 0, none⟩) n d, .slice A n c]).run Try.prog w = .ok (.int .i64 (n : Int)) w' ∧ Row w' g xs ∧ Chg g (g + 1) w w' := by
  obtain ⟨b, off, rfl, hb, hc⟩ := hx.at_ h0
  have hl := hx.len
  have hlen : (xs.map (Value.int .i64)).length = n := by simpa using hl
  have h := run_copy_cells (P := Try.prog) w 23 23 ty 3 g 0 n d ⟨b, off, none⟩ n c (xs.map (Value.int .i64)) Try.underlying23 size_i (by rw [hlen]; exact (Nat.min_self n).symm) (fun j u hu => by
      have hj : j < n := by
        rcases Nat.lt_or_ge j n with h1 | h1
        · exact h1
        · rw [List.getElem?_eq_none (by omega)] at hu; cases hu
      have e : u = .int .i64 (xs.getD j 0) := by
        have hj' : j < xs.length := by omega
        simp [hj'] at hu ⊢
        exact hu.symm
      rw [e, Go.WideShapes.add_plain]
      exact hc j hj) (fun j hj => by rw [Nat.zero_add, hR.c j (by omega)]; rfl) (fun j hj => by rw [Nat.zero_add]; exact hR.f j (by omega)) (fun u hu => by
      obtain ⟨z, _, rfl⟩ := List.mem_map.1 hu
      rfl)
  rw [hlen] at h
  have grown : ∀ (vs : List Value) (o : Nat) (w0 w1 : World), w0.grownBy w1 (some g) → w0.grownBy (w1.setCells g o vs) (some g) := fun vs => by
    induction vs with
    | nil => intro o w0 w1 h; exact h
    | cons v vs ih => intro o w0 w1 h; exact ih (o + 1) w0 _ (own_set h v (k := o))
  have hG := grown (xs.map (Value.int .i64)) 0 w w (World.grownBy.refl w (some g))
  refine ⟨_, h, ⟨Nat.lt_of_lt_of_le hR.lt hG.size, fun i hi => ?_, fun i hi => ?_⟩, Chg.of_grown hG (Nat.le_refl g) (Nat.lt_succ_self g)⟩
  · have hin := World.cell?_setCells_in g (xs.map (Value.int .i64)) 0 w (fun j hj => by rw [Nat.zero_add, hR.c j (by omega)]; rfl) i (by omega)
    rw [Nat.zero_add] at hin
    rw [hin]
    simp [hi]
  · rw [World.frozen?_setCells]; exact hR.f i (by omega)
set_option maxHeartbeats 1000000 in
theorem exchanged_any (A : Option Addr) (n c : Nat) (B : Option Addr) (m d : Nat) (v : Int) (w : World) :
    Calls Try.prog 58 #[.agg #[.slice A n c, .slice B m d, .int .i64 v]] w fun e w' => e = .returned (.agg #[.slice B m d, .slice A n c, .int .i64 v]) ∧ New w w' := by
  go_enter Try.func58, Try.ntmps58
  go_wp2
  go_returns
  exact ⟨rfl, by (repeat (first | exact New.refl _ | assumption | refine New.alloc ?_ _ | refine New.drew ?_ | refine New.drewN ?_ _ | refine New.setCell ?_ (by first | omega | (simp; omega) | (simp; done)) _ | refine New.trans ?_ (by assumption)))⟩
set_option maxRecDepth 100000 in
set_option maxHeartbeats 1000000 in
theorem DropBack_ansB (A : Option Addr) (n c : Nat) (B : Option Addr) (m d : Nat) (v : Int) (xs ys : List Int) (hn : n ≤ 1048576) (hm : m ≤ 1048576) (w : World) (hx : Ints w A n xs) (hy : Ints w B m ys) :
    Calls Try.prog 16 #[.agg #[.slice A n c, .slice B m d, .int .i64 v]] w (AnsBT w (okB v xs ys) (okV (okB v xs ys) v) (okL (okB v xs ys) xs) (okL (okB v xs ys) xs)) := by
  have N0 := Lib.hid (show New w ((w.alloc (.cells #[.slice A n c, .slice B m d, .int .i64 v] 25)).alloc (.cells #[.slice none 0 0, .slice none 0 0, .int .i64 0] 25)) by (repeat (first | exact New.refl _ | assumption | refine New.alloc ?_ _ | refine New.drew ?_ | refine New.drewN ?_ _ | refine New.setCell ?_ (by first | omega | (simp; omega) | (simp; done)) _ | refine New.trans ?_ (by assumption))))
  have P := Lib.hid ((B3.laid w (.slice A n c) (.slice B m d) (.int .i64 v) 25).new ((New.refl _).alloc (.cells #[.slice none 0 0, .slice none 0 0, .int .i64 0] 25)))
  have Q := Lib.hid (B3.laid_at (k := w.heap.size + 1) (w.alloc (.cells #[.slice A n c, .slice B m d, .int .i64 v] 25)) (.slice none 0 0) (.slice none 0 0) (.int .i64 0) 25 (by simp))
  have HX := Lib.hid (hx.new N0.out); have HY := Lib.hid (hy.new N0.out)
  have lx := hx.len; have ly := hy.len
  have Hz : Hid (((w.alloc (.cells #[.slice A n c, .slice B m d, .int .i64 v] 25)).alloc (.cells #[.slice none 0 0, .slice none 0 0, .int .i64 0] 25)).heap.size = w.heap.size + 1 + 1) := Lib.hid (by simp)
  clear hx hy
  cases hv : okB v xs ys
  · have E : Hid (okB v xs ys = false) := Lib.hid hv
    clear lx ly
    go_enter Try.func16, Try.ntmps16
    go_wp2_with fail
    refine (ValidBuffers_any A n c B _ d v xs ys hn hm _ HX.out HY.out).mono ?_
    rw [hv]
    rintro e w1 ⟨rfl, N1a⟩
    have P1 := Lib.hid (P.out.new N1a); have Q1 := Lib.hid (Q.out.new N1a)
    have HX1 := Lib.hid (HX.out.new N1a); have HY1 := Lib.hid (HY.out.new N1a)
    have z1 := N1a.le
    rw [Hz.out] at z1
    have N1 := Lib.hid (N0.out.trans N1a); clear N1a
    obtain ⟨_, p01, p11, p21, _, _, _⟩ := P1.out
    obtain ⟨_, q01, q11, q21, g01, g11, g21⟩ := Q1.out
    go_wp2
    have K := Lib.hid (show Chg (w.heap.size + 1) (w.heap.size + 1 + 1) w1 _ from (((Chg.set w1 (w.heap.size + 1) 0 (.slice none 0 0)).trans (Chg.set _ (w.heap.size + 1) 1 (.slice none 0 0))).trans (Chg.set _ (w.heap.size + 1) 2 (.int .i64 0))))
    have F := Lib.hid (((Q1.out.set0 (.slice none 0 0)).set1 (.slice none 0 0)).set2 (.int .i64 0))
    generalize (((w1.setCell ⟨w.heap.size + 1, 0, none⟩ (.slice none 0 0)).setCell ⟨w.heap.size + 1, 1, none⟩ (.slice none 0 0)).setCell ⟨w.heap.size + 1, 2, none⟩ (.int .i64 0)) = W at K F ⊢
    refine bodyPost_ret (v := .tuple #[.agg #[.slice none 0 0, .slice none 0 0, .int .i64 0], .bool false]) (by simp [results, Try.results16, go_sem, F.out.c0, F.out.c1, F.out.c2]) rfl ?_
    skip
    exact AnsBT.no rfl (N1.out.chgs K.out (by omega))
  obtain ⟨he, h1, h16⟩ := okB_len hv
  rw [lx, ly] at he
  rw [lx] at h1 h16
  obtain rfl : n = m := he
  have n1 : (1 : Int) ≤ (n : Int) := by omega
  have n16 : (n : Int) ≤ 16 := by omega
  have LX := Lib.hid lx; have LY := Lib.hid ly
  clear lx ly
  go_enter Try.func16, Try.ntmps16
  go_wp2_with fail
  refine (ValidBuffers_any A n c B _ d v xs ys hn hm _ HX.out HY.out).mono ?_
  rw [hv]
  rintro e w1 ⟨rfl, N1a⟩
  have P1 := Lib.hid (P.out.new N1a); have Q1 := Lib.hid (Q.out.new N1a)
  have HX1 := Lib.hid (HX.out.new N1a); have HY1 := Lib.hid (HY.out.new N1a)
  have z1 := N1a.le
  rw [Hz.out] at z1
  have N1 := Lib.hid (N0.out.trans N1a); clear N1a
  obtain ⟨_, p01, p11, p21, _, _, _⟩ := P1.out
  obtain ⟨_, q01, q11, q21, g01, g11, g21⟩ := Q1.out
  clear hv
  go_wp2_with fail
  refine (copied_any A n c B n d v xs ys (by omega) (by omega) _ HX1.out HY1.out).mono ?_
  rintro e u ⟨A3, n3, c3, B3', m3, d3, rfl, l3, k3, ⟨l1, t1, l2, t2, a1, a2, a3, a4, a5, a6, r1, r2⟩, Nu⟩
  clear p01 p11 p21 q01 q11 q21 g01 g11 g21
  obtain rfl : n3 = n := by rw [← l3]; exact LX.out
  obtain rfl : m3 = n3 := by rw [← k3]; exact LY.out
  obtain ⟨gb, rfl, b1, b2, RB⟩ := r2.2 (by have := k3; omega)
  have QU := Lib.hid (Q1.out.new Nu); have zu := Nu.le; have NU := Lib.hid (N1.out.trans Nu)
  have RB := Lib.hid RB; have R1 := Lib.hid r1; have L3 := Lib.hid l3
  have gl : gb < u.heap.size := RB.out.lt; have gne : gb ≠ u.heap.size := (by omega); have gne2 : u.heap.size ≠ gb := (by omega); have gne3 : gb ≠ w.heap.size + 1 := (by omega); have gne4 : w.heap.size + 1 ≠ gb := (by omega)
  have AU : New u (u.alloc (.cells #[.slice A3 m3 c3, .slice (some ⟨gb, 0, none⟩) m3 d3, .int .i64 v] 25)) := by (repeat (first | exact New.refl _ | assumption | refine New.alloc ?_ _ | refine New.drew ?_ | refine New.drewN ?_ _ | refine New.setCell ?_ (by first | omega | (simp; omega) | (simp; done)) _ | refine New.trans ?_ (by assumption)))
  obtain ⟨u2, hcp, RB2, K2⟩ := run_cpRow (u.alloc (.cells #[.slice A3 m3 c3, .slice (some ⟨gb, 0, none⟩) m3 d3, .int .i64 v] 25)) 3 gb m3 d3 A3 c3 xs ys (RB.out.new AU) k3 ((R1.out.new AU).ints l3) (by omega)
  have z2 := K2.size
  have O2 := Lib.hid ((B3.laid u (.slice A3 m3 c3) (.slice (some ⟨gb, 0, none⟩) m3 d3) (.int .i64 v) 25).chg K2 (by omega)); have Q2 := Lib.hid ((QU.out.new AU).chg K2 (by omega))
  have RB2 := Lib.hid RB2; have R2 := Lib.hid ((R1.out.new AU).chg K2 (by omega)); have NW := Lib.hid ((NU.out.trans AU).chgs K2 (by omega))
  have zz : u.heap.size + 1 ≤ u2.heap.size := by simpa using z2
  clear l3 k3 r1 r2 Nu AU K2 z2
  obtain ⟨_, o0, o1, o2, _, _, _⟩ := O2.out
  obtain ⟨_, q0, q1, q2, g0, g1, g2⟩ := Q2.out
  go_wp2
  have F := Lib.hid ((((((Q2.out).set0 (.slice A3 m3 c3))).set1 (.slice (some ⟨gb, 0, none⟩) m3 d3))).set2 (.int .i64 v))
  have RF := Lib.hid (Row.far ((Row.far ((Row.far (RB2.out) (p := ⟨w.heap.size + 1, 0, none⟩) (by first | omega | (simp; omega) | (simp; done)) (.slice A3 m3 c3))) (p := ⟨w.heap.size + 1, 1, none⟩) (by first | omega | (simp; omega) | (simp; done)) (.slice (some ⟨gb, 0, none⟩) m3 d3))) (p := ⟨w.heap.size + 1, 2, none⟩) (by first | omega | (simp; omega) | (simp; done)) (.int .i64 v))
  have NF := Lib.hid (New.setCell ((New.setCell ((New.setCell (NW.out) (p := ⟨w.heap.size + 1, 0, none⟩) (by first | omega | (simp; omega) | (simp; done)) (.slice A3 m3 c3))) (p := ⟨w.heap.size + 1, 1, none⟩) (by first | omega | (simp; omega) | (simp; done)) (.slice (some ⟨gb, 0, none⟩) m3 d3))) (p := ⟨w.heap.size + 1, 2, none⟩) (by first | omega | (simp; omega) | (simp; done)) (.int .i64 v))
  have R3 := Lib.hid (Res.chg ((Res.chg ((Res.chg (R2.out) (Chg.set _ (w.heap.size + 1) 0 (.slice A3 m3 c3)) (by omega))) (Chg.set _ (w.heap.size + 1) 1 (.slice (some ⟨gb, 0, none⟩) m3 d3)) (by omega))) (Chg.set _ (w.heap.size + 1) 2 (.int .i64 v)) (by omega))
  have zf : u2.heap.size ≤ (((u2.setCell ⟨w.heap.size + 1, 0, none⟩ (.slice A3 m3 c3)).setCell ⟨w.heap.size + 1, 1, none⟩ (.slice (some ⟨gb, 0, none⟩) m3 d3)).setCell ⟨w.heap.size + 1, 2, none⟩ (.int .i64 v)).heap.size := by simp [World.setCell]
  generalize (((u2.setCell ⟨w.heap.size + 1, 0, none⟩ (.slice A3 m3 c3)).setCell ⟨w.heap.size + 1, 1, none⟩ (.slice (some ⟨gb, 0, none⟩) m3 d3)).setCell ⟨w.heap.size + 1, 2, none⟩ (.int .i64 v)) = W at F RF NF R3 zf ⊢
  refine bodyPost_ret (v := .tuple #[.agg #[.slice A3 m3 c3, .slice (some ⟨gb, 0, none⟩) m3 d3, .int .i64 v], .bool true]) (by simp [results, Try.results16, go_sem, F.out.c0, F.out.c1, F.out.c2]) rfl ?_
  exact ⟨A3, m3, c3, some ⟨gb, 0, none⟩, m3, d3, rfl, L3.out, L3.out, Res2.mk (l1 := l1) (h1 := t1) (l2 := gb) (h2 := gb + 1) (by omega) (by omega) (by omega) (by omega) (by omega) (Nat.le_refl _) R3.out ⟨by omega, fun _ => ⟨gb, rfl, Nat.le_refl _, Nat.lt_succ_self _, RF.out⟩⟩, NF.out⟩
set_option maxRecDepth 100000 in
set_option maxHeartbeats 1000000 in
theorem SwapBuffers_ansB (A : Option Addr) (n c : Nat) (B : Option Addr) (m d : Nat) (v : Int) (xs ys : List Int) (hn : n ≤ 1048576) (hm : m ≤ 1048576) (w : World) (hx : Ints w A n xs) (hy : Ints w B m ys) :
    Calls Try.prog 29 #[.agg #[.slice A n c, .slice B m d, .int .i64 v]] w (AnsBT w (swOk v xs ys) (okV (swOk v xs ys) (v + 1)) (okL (swOk v xs ys) ys) (okL (swOk v xs ys) ys)) := by
  have N0 := Lib.hid (show New w ((w.alloc (.cells #[.slice A n c, .slice B m d, .int .i64 v] 25)).alloc (.cells #[.slice none 0 0, .slice none 0 0, .int .i64 0] 25)) by (repeat (first | exact New.refl _ | assumption | refine New.alloc ?_ _ | refine New.drew ?_ | refine New.drewN ?_ _ | refine New.setCell ?_ (by first | omega | (simp; omega) | (simp; done)) _ | refine New.trans ?_ (by assumption))))
  have P := Lib.hid ((B3.laid w (.slice A n c) (.slice B m d) (.int .i64 v) 25).new ((New.refl _).alloc (.cells #[.slice none 0 0, .slice none 0 0, .int .i64 0] 25)))
  have Q := Lib.hid (B3.laid_at (k := w.heap.size + 1) (w.alloc (.cells #[.slice A n c, .slice B m d, .int .i64 v] 25)) (.slice none 0 0) (.slice none 0 0) (.int .i64 0) 25 (by simp))
  have HX := Lib.hid (hx.new N0.out); have HY := Lib.hid (hy.new N0.out)
  have lx := hx.len; have ly := hy.len
  have Hz : Hid (((w.alloc (.cells #[.slice A n c, .slice B m d, .int .i64 v] 25)).alloc (.cells #[.slice none 0 0, .slice none 0 0, .int .i64 0] 25)).heap.size = w.heap.size + 1 + 1) := Lib.hid (by simp)
  clear hx hy
  cases hv : okB v xs ys
  · have E : Hid (swOk v xs ys = false) := Lib.hid (by unfold swOk; rw [hv]; rfl)
    clear lx ly
    go_enter Try.func29, Try.ntmps29
    go_wp2_with fail
    refine (ValidBuffers_any A n c B _ d v xs ys hn hm _ HX.out HY.out).mono ?_
    rw [hv]
    rintro e w1 ⟨rfl, N1a⟩
    have P1 := Lib.hid (P.out.new N1a); have Q1 := Lib.hid (Q.out.new N1a)
    have HX1 := Lib.hid (HX.out.new N1a); have HY1 := Lib.hid (HY.out.new N1a)
    have z1 := N1a.le
    rw [Hz.out] at z1
    have N1 := Lib.hid (N0.out.trans N1a); clear N1a
    obtain ⟨_, p01, p11, p21, _, _, _⟩ := P1.out
    obtain ⟨_, q01, q11, q21, g01, g11, g21⟩ := Q1.out
    go_wp2
    have K := Lib.hid (show Chg (w.heap.size + 1) (w.heap.size + 1 + 1) w1 _ from (((Chg.set w1 (w.heap.size + 1) 0 (.slice none 0 0)).trans (Chg.set _ (w.heap.size + 1) 1 (.slice none 0 0))).trans (Chg.set _ (w.heap.size + 1) 2 (.int .i64 0))))
    have F := Lib.hid (((Q1.out.set0 (.slice none 0 0)).set1 (.slice none 0 0)).set2 (.int .i64 0))
    generalize (((w1.setCell ⟨w.heap.size + 1, 0, none⟩ (.slice none 0 0)).setCell ⟨w.heap.size + 1, 1, none⟩ (.slice none 0 0)).setCell ⟨w.heap.size + 1, 2, none⟩ (.int .i64 0)) = W at K F ⊢
    refine bodyPost_ret (v := .tuple #[.agg #[.slice none 0 0, .slice none 0 0, .int .i64 0], .bool false]) (by simp [results, Try.results29, go_sem, F.out.c0, F.out.c1, F.out.c2]) rfl ?_
    rw [E.out]
    exact AnsBT.no rfl (N1.out.chgs K.out (by omega))
  obtain ⟨v0, v1⟩ := okB_v hv
  obtain ⟨he, h1, h16⟩ := okB_len hv
  rw [lx, ly] at he
  rw [lx] at h1 h16
  obtain rfl : n = m := he
  have n1 : (1 : Int) ≤ (n : Int) := by omega
  have n16 : (n : Int) ≤ 16 := by omega
  cases hb : (v == 1000)
  rotate_left
  · have E : Hid (swOk v xs ys = false) := Lib.hid (by unfold swOk; rw [hb]; simp)
    clear lx ly
    go_enter Try.func29, Try.ntmps29
    go_wp2_with fail
    refine (ValidBuffers_any A n c B _ d v xs ys hn hm _ HX.out HY.out).mono ?_
    rw [hv]
    rintro e w1 ⟨rfl, N1a⟩
    have P1 := Lib.hid (P.out.new N1a); have Q1 := Lib.hid (Q.out.new N1a)
    have HX1 := Lib.hid (HX.out.new N1a); have HY1 := Lib.hid (HY.out.new N1a)
    have z1 := N1a.le
    rw [Hz.out] at z1
    have N1 := Lib.hid (N0.out.trans N1a); clear N1a
    obtain ⟨_, p01, p11, p21, _, _, _⟩ := P1.out
    obtain ⟨_, q01, q11, q21, g01, g11, g21⟩ := Q1.out
    go_wp2
    have K := Lib.hid (show Chg (w.heap.size + 1) (w.heap.size + 1 + 1) w1 _ from (((Chg.set w1 (w.heap.size + 1) 0 (.slice none 0 0)).trans (Chg.set _ (w.heap.size + 1) 1 (.slice none 0 0))).trans (Chg.set _ (w.heap.size + 1) 2 (.int .i64 0))))
    have F := Lib.hid (((Q1.out.set0 (.slice none 0 0)).set1 (.slice none 0 0)).set2 (.int .i64 0))
    generalize (((w1.setCell ⟨w.heap.size + 1, 0, none⟩ (.slice none 0 0)).setCell ⟨w.heap.size + 1, 1, none⟩ (.slice none 0 0)).setCell ⟨w.heap.size + 1, 2, none⟩ (.int .i64 0)) = W at K F ⊢
    refine bodyPost_ret (v := .tuple #[.agg #[.slice none 0 0, .slice none 0 0, .int .i64 0], .bool false]) (by simp [results, Try.results29, go_sem, F.out.c0, F.out.c1, F.out.c2]) rfl ?_
    rw [E.out]
    exact AnsBT.no rfl (N1.out.chgs K.out (by omega))
  have E : Hid (swOk v xs ys = true) := Lib.hid (by unfold swOk; rw [hv, hb]; rfl)
  have OV : Hid (okB v ys xs = true) := Lib.hid (by obtain ⟨e1, e2, e3, e4⟩ := okB_iff.1 hv; exact okB_iff.2 ⟨e1.symm, e3, e2, e4⟩)
  have v2 : v < 1000 := by simp at hb; omega
  clear lx ly
  go_enter Try.func29, Try.ntmps29
  go_wp2_with fail
  refine (ValidBuffers_any A n c B _ d v xs ys hn hm _ HX.out HY.out).mono ?_
  rw [hv]
  rintro e w1 ⟨rfl, N1a⟩
  have P1 := Lib.hid (P.out.new N1a); have Q1 := Lib.hid (Q.out.new N1a)
  have HX1 := Lib.hid (HX.out.new N1a); have HY1 := Lib.hid (HY.out.new N1a)
  have z1 := N1a.le
  rw [Hz.out] at z1
  have N1 := Lib.hid (N0.out.trans N1a); clear N1a
  obtain ⟨_, p01, p11, p21, _, _, _⟩ := P1.out
  obtain ⟨_, q01, q11, q21, g01, g11, g21⟩ := Q1.out
  clear hv
  go_wp2_with fail
  refine (exchanged_any A n c B n d v _).mono ?_
  rintro e w2 ⟨rfl, N2a⟩
  clear p01 p11 p21 q01 q11 q21 g01 g11 g21
  have P2 := Lib.hid (P1.out.new N2a); have Q2 := Lib.hid (Q1.out.new N2a)
  have HX2 := Lib.hid (HX1.out.new N2a); have HY2 := Lib.hid (HY1.out.new N2a)
  have z2 := N2a.le
  have N2 := Lib.hid (N1.out.trans N2a); clear N2a
  obtain ⟨_, p02, p12, p22, _, _, _⟩ := P2.out
  obtain ⟨_, q02, q12, q22, g02, g12, g22⟩ := Q2.out
  go_wp2_with fail
  refine (DropBack_ansB B n d A n c v ys xs hm hn _ HY2.out HX2.out).mono ?_
  rw [OV.out]
  rintro e u ⟨A3, n3, c3, B3', m3, d3, rfl, l3, k3, RR, Nu⟩
  clear p02 p12 p22 q02 q12 q22 g02 g12 g22
  have QU := Lib.hid (Q2.out.new Nu); have zu := Nu.le; have NU := Lib.hid (N2.out.trans Nu); have RR := Lib.hid RR; have L3 := Lib.hid l3; have K3 := Lib.hid k3
  have sN : w2.heap.size ≤ u.heap.size := zu
  clear l3 k3 Nu
  obtain ⟨_, q0, q1, q2, g0, g1, g2⟩ := QU.out
  have eV : okV true v = v := rfl
  rw [eV]
  clear eV
  go_wp2
  have F := Lib.hid ((((((((QU.out).set0 (.slice A3 n3 c3))).set1 (.slice B3' m3 d3))).set2 (.int .i64 (v + 1)))).new ((New.refl _).alloc (.cells #[.slice A3 n3 c3, .slice B3' m3 d3, .int .i64 (v + 1)] 25)))
  have NF := Lib.hid (((New.setCell ((New.setCell ((New.setCell (NU.out) (p := ⟨w.heap.size + 1, 0, none⟩) (by first | omega | (simp; omega) | (simp; done)) (.slice A3 n3 c3))) (p := ⟨w.heap.size + 1, 1, none⟩) (by first | omega | (simp; omega) | (simp; done)) (.slice B3' m3 d3))) (p := ⟨w.heap.size + 1, 2, none⟩) (by first | omega | (simp; omega) | (simp; done)) (.int .i64 (v + 1)))).alloc (.cells #[.slice A3 n3 c3, .slice B3' m3 d3, .int .i64 (v + 1)] 25))
  have R3 := Lib.hid (Res2.new ((Res2.chg ((Res2.chg ((Res2.chg (RR.out) (Chg.set _ (w.heap.size + 1) 0 (.slice A3 n3 c3)) (.inr (by omega)))) (Chg.set _ (w.heap.size + 1) 1 (.slice B3' m3 d3)) (.inr (by omega)))) (Chg.set _ (w.heap.size + 1) 2 (.int .i64 (v + 1))) (.inr (by omega)))) ((New.refl _).alloc (.cells #[.slice A3 n3 c3, .slice B3' m3 d3, .int .i64 (v + 1)] 25)))
  have zf : u.heap.size ≤ ((((u.setCell ⟨w.heap.size + 1, 0, none⟩ (.slice A3 n3 c3)).setCell ⟨w.heap.size + 1, 1, none⟩ (.slice B3' m3 d3)).setCell ⟨w.heap.size + 1, 2, none⟩ (.int .i64 (v + 1))).alloc (.cells #[.slice A3 n3 c3, .slice B3' m3 d3, .int .i64 (v + 1)] 25)).heap.size := by simp [World.setCell]
  generalize ((((u.setCell ⟨w.heap.size + 1, 0, none⟩ (.slice A3 n3 c3)).setCell ⟨w.heap.size + 1, 1, none⟩ (.slice B3' m3 d3)).setCell ⟨w.heap.size + 1, 2, none⟩ (.int .i64 (v + 1))).alloc (.cells #[.slice A3 n3 c3, .slice B3' m3 d3, .int .i64 (v + 1)] 25)) = W at F NF R3 zf ⊢
  refine bodyPost_ret (v := .tuple #[.agg #[.slice A3 n3 c3, .slice B3' m3 d3, .int .i64 (v + 1)], .bool true]) (by simp [results, Try.results29, go_sem, F.out.c0, F.out.c1, F.out.c2]) rfl ?_
  rw [E.out]
  exact ⟨A3, n3, c3, B3', m3, d3, rfl, L3.out, K3.out, R3.out.mono (by omega) zf (Nat.le_refl _), NF.out⟩
set_option maxRecDepth 100000 in
set_option maxHeartbeats 1000000 in
theorem SDropBack_ansB (A : Option Addr) (n c : Nat) (B : Option Addr) (m d : Nat) (v : Int) (xs ys : List Int) (hn : n ≤ 1048576) (hm : m ≤ 1048576) (w : World) (hx : Ints w A n xs) (hy : Ints w B m ys) :
    Calls Try.prog 17 #[.agg #[.slice A n c, .slice B m d, .int .i64 v]] w (AnsBT w (okB v xs ys) (okV (okB v xs ys) v) (okL (okB v xs ys) xs) (okL (okB v xs ys) xs)) := by
  have N0 := Lib.hid (show New w ((w.alloc (.cells #[.slice A n c, .slice B m d, .int .i64 v] 25)).alloc (.cells #[.slice none 0 0, .slice none 0 0, .int .i64 0] 25)) by (repeat (first | exact New.refl _ | assumption | refine New.alloc ?_ _ | refine New.drew ?_ | refine New.drewN ?_ _ | refine New.setCell ?_ (by first | omega | (simp; omega) | (simp; done)) _ | refine New.trans ?_ (by assumption))))
  have P := Lib.hid ((B3.laid w (.slice A n c) (.slice B m d) (.int .i64 v) 25).new ((New.refl _).alloc (.cells #[.slice none 0 0, .slice none 0 0, .int .i64 0] 25)))
  have Q := Lib.hid (B3.laid_at (k := w.heap.size + 1) (w.alloc (.cells #[.slice A n c, .slice B m d, .int .i64 v] 25)) (.slice none 0 0) (.slice none 0 0) (.int .i64 0) 25 (by simp))
  have HX := Lib.hid (hx.new N0.out); have HY := Lib.hid (hy.new N0.out)
  have lx := hx.len; have ly := hy.len
  have Hz : Hid (((w.alloc (.cells #[.slice A n c, .slice B m d, .int .i64 v] 25)).alloc (.cells #[.slice none 0 0, .slice none 0 0, .int .i64 0] 25)).heap.size = w.heap.size + 1 + 1) := Lib.hid (by simp)
  clear hx hy
  cases hv : okB v xs ys
  · have E : Hid (okB v xs ys = false) := Lib.hid hv
    clear lx ly
    go_enter Try.func17, Try.ntmps17
    go_wp2_with fail
    refine (SValidBuffers_any A n c B _ d v xs ys hn hm _ HX.out HY.out).mono ?_
    rw [hv]
    rintro e w1 ⟨rfl, N1a⟩
    have P1 := Lib.hid (P.out.new N1a); have Q1 := Lib.hid (Q.out.new N1a)
    have HX1 := Lib.hid (HX.out.new N1a); have HY1 := Lib.hid (HY.out.new N1a)
    have z1 := N1a.le
    rw [Hz.out] at z1
    have N1 := Lib.hid (N0.out.trans N1a); clear N1a
    obtain ⟨_, p01, p11, p21, _, _, _⟩ := P1.out
    obtain ⟨_, q01, q11, q21, g01, g11, g21⟩ := Q1.out
    go_wp2
    have K := Lib.hid (show Chg (w.heap.size + 1) (w.heap.size + 1 + 1) w1 _ from (((Chg.set w1 (w.heap.size + 1) 0 (.slice none 0 0)).trans (Chg.set _ (w.heap.size + 1) 1 (.slice none 0 0))).trans (Chg.set _ (w.heap.size + 1) 2 (.int .i64 0))))
    have F := Lib.hid (((Q1.out.set0 (.slice none 0 0)).set1 (.slice none 0 0)).set2 (.int .i64 0))
    generalize (((w1.setCell ⟨w.heap.size + 1, 0, none⟩ (.slice none 0 0)).setCell ⟨w.heap.size + 1, 1, none⟩ (.slice none 0 0)).setCell ⟨w.heap.size + 1, 2, none⟩ (.int .i64 0)) = W at K F ⊢
    refine bodyPost_ret (v := .tuple #[.agg #[.slice none 0 0, .slice none 0 0, .int .i64 0], .bool false]) (by simp [results, Try.results17, go_sem, F.out.c0, F.out.c1, F.out.c2]) rfl ?_
    skip
    exact AnsBT.no rfl (N1.out.chgs K.out (by omega))
  obtain ⟨he, h1, h16⟩ := okB_len hv
  rw [lx, ly] at he
  rw [lx] at h1 h16
  obtain rfl : n = m := he
  have n1 : (1 : Int) ≤ (n : Int) := by omega
  have n16 : (n : Int) ≤ 16 := by omega
  have L0 := Lib.hid lx
  have CC := Lib.hid (fun W h => copyInts_ans A n c xs (by omega) W h)
  clear lx ly
  go_enter Try.func17, Try.ntmps17
  go_wp2_with fail
  refine (SValidBuffers_any A n c B _ d v xs ys hn hm _ HX.out HY.out).mono ?_
  rw [hv]
  rintro e w1 ⟨rfl, N1a⟩
  have P1 := Lib.hid (P.out.new N1a); have Q1 := Lib.hid (Q.out.new N1a)
  have HX1 := Lib.hid (HX.out.new N1a); have HY1 := Lib.hid (HY.out.new N1a)
  have z1 := N1a.le
  rw [Hz.out] at z1
  have N1 := Lib.hid (N0.out.trans N1a); clear N1a
  obtain ⟨_, p01, p11, p21, _, _, _⟩ := P1.out
  obtain ⟨_, q01, q11, q21, g01, g11, g21⟩ := Q1.out
  clear hv
  have HD := Lib.hid (show Ints w1.drew A n xs from HX1.out.new (New.refl w1).drew)
  have PD := Lib.hid (P1.out.new (New.refl w1).drew); have QD := Lib.hid (Q1.out.new (New.refl w1).drew); have ND := Lib.hid (N1.out.drew)
  have Dz : Hid (w1.drew.heap.size = w1.heap.size) := Lib.hid rfl
  have K0 := keepB PD.out
  go_wp2
  clear p01 p11 p21 q01 q11 q21 g01 g11 g21
  go_region_held3 (fun w' => w'.cell? ⟨w.heap.size, 0, none⟩ = some (.slice A n c) ∧ w'.cell? ⟨w.heap.size, 1, none⟩ = some (.slice B n d) ∧ w'.cell? ⟨w.heap.size, 2, none⟩ = some (.int .i64 v))
    (first | exact K2 | exact K1 | exact K0 | exact K3)
    (first
      | ((go_at_call 50); (refine (CC.out _ HD.out).mono ?_); (rintro e w2 ⟨A1, n1', c1, rfl, l1, r1, N2⟩); (have L1 := Lib.hid l1); (have R1 := Lib.hid r1); (have z2 := N2.le); (have P2 := Lib.hid (PD.out.new N2)); (have Q2 := Lib.hid (QD.out.new N2)); (have HD2 := Lib.hid (HD.out.new N2)); (have M2 := Lib.hid (ND.out.trans N2)); (have K1 := keepB P2.out); (clear l1 r1 N2))
      | ((go_at_call 50); (refine (CC.out _ HD2.out).mono ?_); (rintro e w3 ⟨A2, n2, c2, rfl, l2, r2, N3⟩); (have L2 := Lib.hid l2); (have R1 := Lib.hid (R1.out.new N3)); (have R2 := Lib.hid r2); (have z3 := N3.le); (have P3 := Lib.hid (P2.out.new N3)); (have Q3 := Lib.hid (Q2.out.new N3)); (have M3 := Lib.hid (M2.out.trans N3)); (have K2 := keepB P3.out); (have K3 := keepB (((P3.out.far (h := w.heap.size + 1) (o := 0) (by omega) (.slice A1 n1' c1)).far (h := w.heap.size + 1) (o := 1) (by omega) (.slice A2 n2 c2)).far (h := w.heap.size + 1) (o := 2) (by omega) (.int .i64 v))); (obtain ⟨_, q0, q1, q2, g0, g1, g2⟩ := Q3.out); (clear l2 r2 N3)))
  rw [Dz.out] at z2 R1
  clear K0 K1 K2 K3 q0 q1 q2 g0 g1 g2
  go_wp2
  have K := Lib.hid (show Chg (w.heap.size + 1) (w.heap.size + 1 + 1) w3 _ from (((Chg.set w3 (w.heap.size + 1) 0 (.slice A1 n1' c1)).trans (Chg.set _ (w.heap.size + 1) 1 (.slice A2 n2 c2))).trans (Chg.set _ (w.heap.size + 1) 2 (.int .i64 v))))
  have F := Lib.hid (((Q3.out.set0 (.slice A1 n1' c1)).set1 (.slice A2 n2 c2)).set2 (.int .i64 v))
  generalize (((w3.setCell ⟨w.heap.size + 1, 0, none⟩ (.slice A1 n1' c1)).setCell ⟨w.heap.size + 1, 1, none⟩ (.slice A2 n2 c2)).setCell ⟨w.heap.size + 1, 2, none⟩ (.int .i64 v)) = W at K F ⊢
  refine bodyPost_ret (v := .tuple #[.agg #[.slice A1 n1' c1, .slice A2 n2 c2, .int .i64 v], .bool true]) (by simp [results, Try.results17, go_sem, F.out.c0, F.out.c1, F.out.c2]) rfl ?_
  refine ⟨A1, n1', c1, A2, n2, c2, rfl, L1.out, L2.out, Res2.mk (l1 := w1.heap.size) (h1 := w2.heap.size) (l2 := w2.heap.size) (h2 := w3.heap.size) (by omega) (Nat.le_trans z3 K.out.size) (by omega) K.out.size (.inl (Nat.le_refl _)) (Nat.le_refl _) (R1.out.chg K.out (.inr (by omega))) (R2.out.chg K.out (.inr (by omega))), M3.out.chgs K.out (by omega)⟩
set_option maxRecDepth 100000 in
set_option maxHeartbeats 1000000 in
theorem SSwapBuffers_ansB (A : Option Addr) (n c : Nat) (B : Option Addr) (m d : Nat) (v : Int) (xs ys : List Int) (hn : n ≤ 1048576) (hm : m ≤ 1048576) (w : World) (hx : Ints w A n xs) (hy : Ints w B m ys) :
    Calls Try.prog 30 #[.agg #[.slice A n c, .slice B m d, .int .i64 v]] w (AnsBT w (swOk v xs ys) (okV (swOk v xs ys) (v + 1)) (okL (swOk v xs ys) ys) (okL (swOk v xs ys) ys)) := by
  have N0 := Lib.hid (show New w ((w.alloc (.cells #[.slice A n c, .slice B m d, .int .i64 v] 25)).alloc (.cells #[.slice none 0 0, .slice none 0 0, .int .i64 0] 25)) by (repeat (first | exact New.refl _ | assumption | refine New.alloc ?_ _ | refine New.drew ?_ | refine New.drewN ?_ _ | refine New.setCell ?_ (by first | omega | (simp; omega) | (simp; done)) _ | refine New.trans ?_ (by assumption))))
  have P := Lib.hid ((B3.laid w (.slice A n c) (.slice B m d) (.int .i64 v) 25).new ((New.refl _).alloc (.cells #[.slice none 0 0, .slice none 0 0, .int .i64 0] 25)))
  have Q := Lib.hid (B3.laid_at (k := w.heap.size + 1) (w.alloc (.cells #[.slice A n c, .slice B m d, .int .i64 v] 25)) (.slice none 0 0) (.slice none 0 0) (.int .i64 0) 25 (by simp))
  have HX := Lib.hid (hx.new N0.out); have HY := Lib.hid (hy.new N0.out)
  have lx := hx.len; have ly := hy.len
  have Hz : Hid (((w.alloc (.cells #[.slice A n c, .slice B m d, .int .i64 v] 25)).alloc (.cells #[.slice none 0 0, .slice none 0 0, .int .i64 0] 25)).heap.size = w.heap.size + 1 + 1) := Lib.hid (by simp)
  clear hx hy
  cases hv : okB v xs ys
  · have E : Hid (swOk v xs ys = false) := Lib.hid (by unfold swOk; rw [hv]; rfl)
    clear lx ly
    go_enter Try.func30, Try.ntmps30
    go_wp2_with fail
    refine (SValidBuffers_any A n c B _ d v xs ys hn hm _ HX.out HY.out).mono ?_
    rw [hv]
    rintro e w1 ⟨rfl, N1a⟩
    have P1 := Lib.hid (P.out.new N1a); have Q1 := Lib.hid (Q.out.new N1a)
    have HX1 := Lib.hid (HX.out.new N1a); have HY1 := Lib.hid (HY.out.new N1a)
    have z1 := N1a.le
    rw [Hz.out] at z1
    have N1 := Lib.hid (N0.out.trans N1a); clear N1a
    obtain ⟨_, p01, p11, p21, _, _, _⟩ := P1.out
    obtain ⟨_, q01, q11, q21, g01, g11, g21⟩ := Q1.out
    go_wp2
    have K := Lib.hid (show Chg (w.heap.size + 1) (w.heap.size + 1 + 1) w1 _ from (((Chg.set w1 (w.heap.size + 1) 0 (.slice none 0 0)).trans (Chg.set _ (w.heap.size + 1) 1 (.slice none 0 0))).trans (Chg.set _ (w.heap.size + 1) 2 (.int .i64 0))))
    have F := Lib.hid (((Q1.out.set0 (.slice none 0 0)).set1 (.slice none 0 0)).set2 (.int .i64 0))
    generalize (((w1.setCell ⟨w.heap.size + 1, 0, none⟩ (.slice none 0 0)).setCell ⟨w.heap.size + 1, 1, none⟩ (.slice none 0 0)).setCell ⟨w.heap.size + 1, 2, none⟩ (.int .i64 0)) = W at K F ⊢
    refine bodyPost_ret (v := .tuple #[.agg #[.slice none 0 0, .slice none 0 0, .int .i64 0], .bool false]) (by simp [results, Try.results30, go_sem, F.out.c0, F.out.c1, F.out.c2]) rfl ?_
    rw [E.out]
    exact AnsBT.no rfl (N1.out.chgs K.out (by omega))
  obtain ⟨v0, v1⟩ := okB_v hv
  obtain ⟨he, h1, h16⟩ := okB_len hv
  rw [lx, ly] at he
  rw [lx] at h1 h16
  obtain rfl : n = m := he
  have n1 : (1 : Int) ≤ (n : Int) := by omega
  have n16 : (n : Int) ≤ 16 := by omega
  cases hb : (v == 1000)
  rotate_left
  · have E : Hid (swOk v xs ys = false) := Lib.hid (by unfold swOk; rw [hb]; simp)
    clear lx ly
    go_enter Try.func30, Try.ntmps30
    go_wp2_with fail
    refine (SValidBuffers_any A n c B _ d v xs ys hn hm _ HX.out HY.out).mono ?_
    rw [hv]
    rintro e w1 ⟨rfl, N1a⟩
    have P1 := Lib.hid (P.out.new N1a); have Q1 := Lib.hid (Q.out.new N1a)
    have HX1 := Lib.hid (HX.out.new N1a); have HY1 := Lib.hid (HY.out.new N1a)
    have z1 := N1a.le
    rw [Hz.out] at z1
    have N1 := Lib.hid (N0.out.trans N1a); clear N1a
    obtain ⟨_, p01, p11, p21, _, _, _⟩ := P1.out
    obtain ⟨_, q01, q11, q21, g01, g11, g21⟩ := Q1.out
    go_wp2
    have K := Lib.hid (show Chg (w.heap.size + 1) (w.heap.size + 1 + 1) w1 _ from (((Chg.set w1 (w.heap.size + 1) 0 (.slice none 0 0)).trans (Chg.set _ (w.heap.size + 1) 1 (.slice none 0 0))).trans (Chg.set _ (w.heap.size + 1) 2 (.int .i64 0))))
    have F := Lib.hid (((Q1.out.set0 (.slice none 0 0)).set1 (.slice none 0 0)).set2 (.int .i64 0))
    generalize (((w1.setCell ⟨w.heap.size + 1, 0, none⟩ (.slice none 0 0)).setCell ⟨w.heap.size + 1, 1, none⟩ (.slice none 0 0)).setCell ⟨w.heap.size + 1, 2, none⟩ (.int .i64 0)) = W at K F ⊢
    refine bodyPost_ret (v := .tuple #[.agg #[.slice none 0 0, .slice none 0 0, .int .i64 0], .bool false]) (by simp [results, Try.results30, go_sem, F.out.c0, F.out.c1, F.out.c2]) rfl ?_
    rw [E.out]
    exact AnsBT.no rfl (N1.out.chgs K.out (by omega))
  have E : Hid (swOk v xs ys = true) := Lib.hid (by unfold swOk; rw [hv, hb]; rfl)
  have v2 : v < 1000 := by simp at hb; omega
  have L0 := Lib.hid ly
  have CC := Lib.hid (fun W h => copyInts_ans B n d ys (by omega) W h)
  clear lx ly
  go_enter Try.func30, Try.ntmps30
  go_wp2_with fail
  refine (SValidBuffers_any A n c B _ d v xs ys hn hm _ HX.out HY.out).mono ?_
  rw [hv]
  rintro e w1 ⟨rfl, N1a⟩
  have P1 := Lib.hid (P.out.new N1a); have Q1 := Lib.hid (Q.out.new N1a)
  have HX1 := Lib.hid (HX.out.new N1a); have HY1 := Lib.hid (HY.out.new N1a)
  have z1 := N1a.le
  rw [Hz.out] at z1
  have N1 := Lib.hid (N0.out.trans N1a); clear N1a
  obtain ⟨_, p01, p11, p21, _, _, _⟩ := P1.out
  obtain ⟨_, q01, q11, q21, g01, g11, g21⟩ := Q1.out
  clear hv
  have HD := Lib.hid (show Ints w1.drew B n ys from HY1.out.new (New.refl w1).drew)
  have PD := Lib.hid (P1.out.new (New.refl w1).drew); have QD := Lib.hid (Q1.out.new (New.refl w1).drew); have ND := Lib.hid (N1.out.drew)
  have Dz : Hid (w1.drew.heap.size = w1.heap.size) := Lib.hid rfl
  have K0 := keepB PD.out
  have s1 : IntKind.i64.wrap (v + 1) = v + 1 := IntWalk.i64_in _ (by omega)
  go_wp2
  clear p01 p11 p21 q01 q11 q21 g01 g11 g21
  go_region_held3 (fun w' => w'.cell? ⟨w.heap.size, 0, none⟩ = some (.slice A n c) ∧ w'.cell? ⟨w.heap.size, 1, none⟩ = some (.slice B n d) ∧ w'.cell? ⟨w.heap.size, 2, none⟩ = some (.int .i64 v))
    (first | exact K2 | exact K1 | exact K0 | exact K3)
    (first
      | ((go_at_call 50); (refine (CC.out _ HD.out).mono ?_); (rintro e w2 ⟨A1, n1', c1, rfl, l1, r1, N2⟩); (have L1 := Lib.hid l1); (have R1 := Lib.hid r1); (have z2 := N2.le); (have P2 := Lib.hid (PD.out.new N2)); (have Q2 := Lib.hid (QD.out.new N2)); (have HD2 := Lib.hid (HD.out.new N2)); (have M2 := Lib.hid (ND.out.trans N2)); (have K1 := keepB P2.out); (clear l1 r1 N2))
      | ((go_at_call 50); (refine (CC.out _ HD2.out).mono ?_); (rintro e w3 ⟨A2, n2, c2, rfl, l2, r2, N3⟩); (have L2 := Lib.hid l2); (have R1 := Lib.hid (R1.out.new N3)); (have R2 := Lib.hid r2); (have z3 := N3.le); (have P3 := Lib.hid (P2.out.new N3)); (have Q3 := Lib.hid (Q2.out.new N3)); (have M3 := Lib.hid (M2.out.trans N3)); (have K2 := keepB P3.out); (have K3 := keepB (((P3.out.far (h := w.heap.size + 1) (o := 0) (by omega) (.slice A1 n1' c1)).far (h := w.heap.size + 1) (o := 1) (by omega) (.slice A2 n2 c2)).far (h := w.heap.size + 1) (o := 2) (by omega) (.int .i64 (v + 1)))); (obtain ⟨_, q0, q1, q2, g0, g1, g2⟩ := Q3.out); (clear l2 r2 N3)))
  rw [Dz.out] at z2 R1
  clear K0 K1 K2 K3 q0 q1 q2 g0 g1 g2 s1
  go_wp2
  have K := Lib.hid (show Chg (w.heap.size + 1) (w.heap.size + 1 + 1) w3 _ from (((Chg.set w3 (w.heap.size + 1) 0 (.slice A1 n1' c1)).trans (Chg.set _ (w.heap.size + 1) 1 (.slice A2 n2 c2))).trans (Chg.set _ (w.heap.size + 1) 2 (.int .i64 (v + 1)))))
  have F := Lib.hid (((Q3.out.set0 (.slice A1 n1' c1)).set1 (.slice A2 n2 c2)).set2 (.int .i64 (v + 1)))
  generalize (((w3.setCell ⟨w.heap.size + 1, 0, none⟩ (.slice A1 n1' c1)).setCell ⟨w.heap.size + 1, 1, none⟩ (.slice A2 n2 c2)).setCell ⟨w.heap.size + 1, 2, none⟩ (.int .i64 (v + 1))) = W at K F ⊢
  refine bodyPost_ret (v := .tuple #[.agg #[.slice A1 n1' c1, .slice A2 n2 c2, .int .i64 (v + 1)], .bool true]) (by simp [results, Try.results30, go_sem, F.out.c0, F.out.c1, F.out.c2]) rfl ?_
  rw [E.out]
  refine ⟨A1, n1', c1, A2, n2, c2, rfl, L1.out, L2.out, Res2.mk (l1 := w1.heap.size) (h1 := w2.heap.size) (l2 := w2.heap.size) (h2 := w3.heap.size) (by omega) (Nat.le_trans z3 K.out.size) (by omega) K.out.size (.inl (Nat.le_refl _)) (Nat.le_refl _) (R1.out.chg K.out (.inr (by omega))) (R2.out.chg K.out (.inr (by omega))), M3.out.chgs K.out (by omega)⟩
set_option maxRecDepth 100000 in
set_option maxHeartbeats 1000000 in
theorem ReadCell_any (A : Option Addr) (n c : Nat) (B : Option Addr) (m d : Nat) (v : Int) (xs ys : List Int) (at_ : Int) (hn : n ≤ 1048576) (hm : m ≤ 1048576) (w : World) (hx : Ints w A n xs) (hy : Ints w B m ys) :
    Calls Try.prog 31 #[.agg #[.slice A n c, .slice B m d, .int .i64 v], .int .i64 at_] w fun e w' => e = .returned (.tuple #[.int .i64 (okV (rdOk v xs ys at_) (xs.getD at_.toNat 0)), .bool (rdOk v xs ys at_)]) ∧ New w w' := by
  have N0 := Lib.hid (show New w (w.alloc (.cells #[.slice A n c, .slice B m d, .int .i64 v] 25)) by (repeat (first | exact New.refl _ | assumption | refine New.alloc ?_ _ | refine New.drew ?_ | refine New.drewN ?_ _ | refine New.setCell ?_ (by first | omega | (simp; omega) | (simp; done)) _ | refine New.trans ?_ (by assumption))))
  have P := Lib.hid (B3.laid w (.slice A n c) (.slice B m d) (.int .i64 v) 25)
  have HX := Lib.hid (hx.new N0.out); have HY := Lib.hid (hy.new N0.out)
  have lx := hx.len; have ly := hy.len
  clear hx hy
  cases hv : okB v xs ys
  · have E : Hid (rdOk v xs ys at_ = false) := Lib.hid (by unfold rdOk; rw [hv]; rfl)
    clear lx ly
    go_enter Try.func31, Try.ntmps31
    go_wp2_with fail
    refine (ValidBuffers_any A n c B _ d v xs ys hn hm _ HX.out HY.out).mono ?_
    rw [hv]
    rintro e w1 ⟨rfl, N1a⟩
    have P1 := Lib.hid (P.out.new N1a); have HX1 := Lib.hid (HX.out.new N1a); have HY1 := Lib.hid (HY.out.new N1a); have N1 := Lib.hid (N0.out.trans N1a); clear N1a
    obtain ⟨_, p01, p11, p21, _, _, _⟩ := P1.out
    go_wp2
    go_ret2
    rw [E.out]
    exact ⟨rfl, N1.out⟩
  obtain ⟨he, h1, h16⟩ := okB_len hv
  rw [lx, ly] at he
  rw [lx] at h1 h16
  obtain rfl : n = m := he
  have n1 : (1 : Int) ≤ (n : Int) := by omega
  have n16 : (n : Int) ≤ 16 := by omega
  cases hc : inB n at_
  · have E : Hid (rdOk v xs ys at_ = false) := Lib.hid (by unfold rdOk; rw [lx, hc]; simp)
    clear lx ly
    go_enter Try.func31, Try.ntmps31
    go_wp2_with fail
    refine (ValidBuffers_any A n c B _ d v xs ys hn hm _ HX.out HY.out).mono ?_
    rw [hv]
    rintro e w1 ⟨rfl, N1a⟩
    have P1 := Lib.hid (P.out.new N1a); have HX1 := Lib.hid (HX.out.new N1a); have HY1 := Lib.hid (HY.out.new N1a); have N1 := Lib.hid (N0.out.trans N1a); clear N1a
    obtain ⟨_, p01, p11, p21, _, _, _⟩ := P1.out
    go_wp2_with fail
    refine (hasCell_any A n c B n d v at_ hn _).mono ?_
    rw [hc]
    rintro e w2 ⟨rfl, N2a⟩
    clear p01 p11 p21
    have P2 := Lib.hid (P1.out.new N2a); have HX2 := Lib.hid (HX1.out.new N2a); have HY2 := Lib.hid (HY1.out.new N2a); have N2 := Lib.hid (N1.out.trans N2a); clear N2a
    obtain ⟨_, p02, p12, p22, _, _, _⟩ := P2.out
    go_wp2
    go_ret2
    rw [E.out]
    exact ⟨rfl, N2.out⟩
  have E : Hid (rdOk v xs ys at_ = true) := Lib.hid (by unfold rdOk; rw [hv, lx, hc]; rfl)
  obtain ⟨k, hk, rfl⟩ := inB_iff.1 hc
  have k0 : (0 : Int) ≤ (k : Int) := by omega
  have k1 : (k : Int) < (n : Int) := by omega
  clear lx ly
  go_enter Try.func31, Try.ntmps31
  go_wp2_with fail
  refine (ValidBuffers_any A n c B _ d v xs ys hn hm _ HX.out HY.out).mono ?_
  rw [hv]
  rintro e w1 ⟨rfl, N1a⟩
  have P1 := Lib.hid (P.out.new N1a); have HX1 := Lib.hid (HX.out.new N1a); have HY1 := Lib.hid (HY.out.new N1a); have N1 := Lib.hid (N0.out.trans N1a); clear N1a
  obtain ⟨_, p01, p11, p21, _, _, _⟩ := P1.out
  go_wp2_with fail
  refine (hasCell_any A n c B n d v (k : Int) hn _).mono ?_
  rw [hc]
  rintro e w2 ⟨rfl, N2a⟩
  clear p01 p11 p21
  have P2 := Lib.hid (P1.out.new N2a); have HX2 := Lib.hid (HX1.out.new N2a); have HY2 := Lib.hid (HY1.out.new N2a); have N2 := Lib.hid (N1.out.trans N2a); clear N2a
  obtain ⟨_, p02, p12, p22, _, _, _⟩ := P2.out
  clear hv hc
  obtain ⟨b, off, rfl, hb, hcc⟩ := HX2.out.at_ (by omega)
  have g := hcc k hk
  have eX : Hid (okV true (xs.getD (k : Int).toNat 0) = xs.getD k 0) := Lib.hid (by rw [Int.toNat_natCast]; rfl)
  clear hcc hb
  generalize xs.getD k 0 = y at g eX
  go_wp2
  go_ret2
  rw [E.out, eX.out]
  exact ⟨rfl, N2.out⟩
end Go.Proofs.Ytbnelakllfbjiaa
