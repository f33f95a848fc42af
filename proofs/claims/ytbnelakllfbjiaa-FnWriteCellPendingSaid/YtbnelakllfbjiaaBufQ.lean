/- Comparing buffers that are the same, walked. Condition: both can be read. -/
import Derived.Test.YtbnelakllfbjiaaBufP
namespace Go.Proofs.Ytbnelakllfbjiaa
open Go.RowKit

theorem okB_swap (v : Int) (xs ys : List Int) : okB v ys xs = okB v xs ys := by
  rw [Bool.eq_iff_iff, okB_iff, okB_iff]
  constructor
  · rintro ⟨h1, h2, h3, h4⟩; exact ⟨h1.symm, h3, h2, h4⟩
  · rintro ⟨h1, h2, h3, h4⟩; exact ⟨h1.symm, h3, h2, h4⟩
theorem pendTo_same (xs : List Int) (k : Nat) : pendTo xs xs k = [] := by
  induction k with
  | zero => rfl
  | succ k ih => rw [pendTo_no rfl, ih]
theorem pendA_same (v : Int) (xs : List Int) : pendA v xs xs = [] := by
  unfold pendA okL
  rw [pendTo_same]
  split <;> rfl
theorem swOk_yes {v : Int} {xs ys : List Int} (h : swOk v xs ys = true) : 0 ≤ v ∧ v < 1000 ∧ okB (v + 1) ys ys = true := by
  unfold swOk at h
  rw [Bool.and_eq_true] at h
  obtain ⟨h1, h2, h3, h4, h5⟩ := okB_iff.1 h.1
  have hv : v ≠ 1000 := by have h2 := h.2; simpa using h2
  exact ⟨h4, by omega, okB_iff.2 ⟨rfl, h3, h3, by omega, by omega⟩⟩
theorem swOk_okB {v : Int} {xs ys : List Int} (h : swOk v xs ys = true) : okB v xs ys = true := by
  unfold swOk at h
  rw [Bool.and_eq_true] at h
  exact h.1
theorem rdOk_yes {v x : Int} {xs ys : List Int} (h : rdOk v xs ys x = true) : okB v xs ys = true ∧ ∃ i : Nat, i < xs.length ∧ x = i := by
  unfold rdOk at h
  rw [Bool.and_eq_true, inB_iff] at h
  exact h
theorem rdOk_mk {v : Int} {xs ys : List Int} {i : Nat} (h : okB v xs ys = true) (hi : i < xs.length) : rdOk v xs ys (i : Int) = true := by
  unfold rdOk
  rw [Bool.and_eq_true, inB_iff]
  exact ⟨h, i, hi, rfl⟩
theorem okB_drop {v : Int} {xs ys : List Int} (h : okB v xs ys = true) : okB v xs xs = true := by
  obtain ⟨h1, h2, h3, h4⟩ := okB_iff.1 h
  exact okB_iff.2 ⟨rfl, h2, h2, h4⟩
theorem rdOk_drop {v : Int} {xs ys : List Int} {i : Nat} (h : okB v xs ys = true) (hi : i < xs.length) : rdOk v xs xs (i : Int) = true := rdOk_mk (okB_drop h) hi
theorem cellsB_set {ys : List Int} {i : Nat} {z : Int} (h : cellsB ys = true) (hz : numB z = true) : cellsB (ys.set i z) = true := by
  obtain ⟨h1, h2, h3⟩ := cellsB_iff.1 h
  refine cellsB_iff.2 ⟨by rw [List.length_set]; exact h1, by rw [List.length_set]; exact h2, fun y hy => ?_⟩
  rcases List.mem_or_eq_of_mem_set hy with h4 | h4
  · exact h3 y h4
  · rw [h4]; unfold numB at hz; simpa using hz
theorem okB_set {v z : Int} {xs ys : List Int} {i : Nat} (h : okB v xs ys = true) (hz : numB z = true) : okB v xs (ys.set i z) = true := by
  obtain ⟨h1, h2, h3, h4⟩ := okB_iff.1 h
  exact okB_iff.2 ⟨by rw [List.length_set]; exact h1, h2, cellsB_set h3 hz, h4⟩
theorem wrOk_yes {v x z : Int} {xs ys : List Int} (h : wrOk v xs ys x z = true) : okB v xs ys = true ∧ numB z = true ∧ ∃ i : Nat, i < xs.length ∧ x = i := by
  unfold wrOk at h
  rw [Bool.and_eq_true, Bool.and_eq_true, inB_iff] at h
  exact ⟨h.1.1, h.2, h.1.2⟩
theorem wrOk_mk {v z : Int} {xs ys : List Int} {i : Nat} (h : okB v xs ys = true) (hi : i < xs.length) (hz : numB z = true) : wrOk v xs ys (i : Int) z = true := by
  unfold wrOk
  rw [Bool.and_eq_true, Bool.and_eq_true, inB_iff]
  exact ⟨⟨h, i, hi, rfl⟩, hz⟩
theorem rdOk_none (a : Int) : rdOk 0 [] [] a = false := by unfold rdOk okB cellsB; simp
theorem next_ne {i k : Nat} (h : i < k) (h2 : 2 ≤ k) : ∃ o : Nat, o < k ∧ o ≠ i ∧ ((i : Int) + 1) % (k : Int) = (o : Int) := by
  refine ⟨(i + 1) % k, Nat.mod_lt _ (by omega), ?_, by rw [Int.natCast_emod]; rfl⟩
  by_cases e : i + 1 < k
  · rw [Nat.mod_eq_of_lt e]; omega
  · have : i + 1 = k := by omega
    rw [this, Nat.mod_self]; omega
theorem equalInts_same (A B : Option Addr) (n m c d : Nat) (xs ys : List Int) (hn : n ≤ 1048576) (hm : m ≤ 1048576) (w : World) (hx : Ints w A n xs) (hy : Ints w B m ys) (he : xs = ys) :
    Calls Try.prog 19 #[.slice A n c, .slice B m d] w fun e w' => e = .returned (.bool true) ∧ New w w' := by
  have h := equalInts_any A B n m c d xs ys hn hm w hx hy
  rw [decide_eq_true he] at h
  exact h
set_option maxHeartbeats 1000000 in
theorem equalBuffers_any (A : Option Addr) (n c : Nat) (B : Option Addr) (m d : Nat) (C : Option Addr) (p k : Nat) (D : Option Addr) (q l : Nat) (v : Int) (xs ys : List Int) (hn : n ≤ 1048576) (hm : m ≤ 1048576) (hp : p ≤ 1048576) (hq : q ≤ 1048576)
    (w : World) (hx : Ints w A n xs) (hy : Ints w B m ys) (hx' : Ints w C p xs) (hy' : Ints w D q ys) :
    Calls Try.prog 18 #[.agg #[.slice A n c, .slice B m d, .int .i64 v], .agg #[.slice C p k, .slice D q l, .int .i64 v]] w fun e w' => e = .returned (.bool true) ∧ New w w' := by
  have HX := Lib.hid hx; have HY := Lib.hid hy; have HX' := Lib.hid hx'; have HY' := Lib.hid hy'
  clear hx hy hx' hy'
  have C1 := Lib.hid (fun W h h' => equalInts_same A C n p c k xs xs hn hp W h h' rfl)
  have C2 := Lib.hid (fun W h h' => equalInts_same B D m q d l ys ys hm hq W h h' rfl)
  have P := Lib.hid (B3.laid w (.slice A n c) (.slice B m d) (.int .i64 v) 25)
  have Q := Lib.hid (B3.laid_at (k := w.heap.size + 1) (w.alloc (.cells #[.slice A n c, .slice B m d, .int .i64 v] 25)) (.slice C p k) (.slice D q l) (.int .i64 v) 25 (by simp))
  have N0 := Lib.hid (show New w ((w.alloc (.cells #[.slice A n c, .slice B m d, .int .i64 v] 25)).alloc (.cells #[.slice C p k, .slice D q l, .int .i64 v] 25)) by (repeat (first | exact New.refl _ | assumption | refine New.alloc ?_ _ | refine New.drew ?_ | refine New.drewN ?_ _ | refine New.setCell ?_ (by first | omega | (simp; omega) | (simp; done)) _ | refine New.trans ?_ (by assumption))))
  clear hn hm hp hq
  go_enter Try.func18, Try.ntmps18
  go_wp2_with fail
  refine (C1.out _ (HX.out.new N0.out) (HX'.out.new N0.out)).mono ?_
  rintro e w1 ⟨rfl, N1⟩
  have P1 := Lib.hid ((P.out.new (by (repeat (first | exact New.refl _ | assumption | refine New.alloc ?_ _ | refine New.drew ?_ | refine New.drewN ?_ _ | refine New.setCell ?_ (by first | omega | (simp; omega) | (simp; done)) _ | refine New.trans ?_ (by assumption))))).new N1); have Q1 := Lib.hid (Q.out.new N1); have N1 := Lib.hid (N0.out.trans N1)
  obtain ⟨_, p0, p1, p2, _, _, _⟩ := P1.out
  obtain ⟨_, q0, q1, q2, _, _, _⟩ := Q1.out
  go_wp2_with fail
  refine (C2.out _ (HY.out.new N1.out) (HY'.out.new N1.out)).mono ?_
  rintro e w2 ⟨rfl, N2⟩
  have P2 := Lib.hid (P1.out.new N2); have Q2 := Lib.hid (Q1.out.new N2); have N2 := Lib.hid (N1.out.trans N2)
  clear p0 p1 p2 q0 q1 q2
  obtain ⟨_, p0, p1, p2, _, _, _⟩ := P2.out
  obtain ⟨_, q0, q1, q2, _, _, _⟩ := Q2.out
  go_wp2
  go_ret
  exact ⟨rfl, N2.out⟩
end Go.Proofs.Ytbnelakllfbjiaa
