/- The law FnExactReadCell, walked over what both functions do: whatever the buffers and the number, both answers are the same, and the arguments are left alone. Conditions: the arguments can be read; both functions answer alike. -/
import Derived.Test.YtopnegbaieflpaaBuf
import Derived.Deep.RegionHeld3
namespace Go.Proofs.Ytopnegbaieflpaa
open Go.RowKit

set_option maxRecDepth 100000 in
set_option maxHeartbeats 4000000 in
theorem lawExactReadCell (A : Option Addr) (n c : Nat) (B : Option Addr) (m d : Nat) (v : Int) (xs ys : List Int) (a : Int) (ok : Bool) (z : Int)
    (hI : ∀ (C : Option Addr) (p k : Nat) (D : Option Addr) (q l : Nat) (W : World), Ints W C p xs → Ints W D q ys → p ≤ 1048576 → q ≤ 1048576 → Calls Try.prog 21 #[.agg #[.slice C p k, .slice D q l, .int .i64 v], .int .i64 a] W (fun e w' => e = .returned (.tuple #[.int .i64 z, .bool ok]) ∧ New W w'))
    (hS : ∀ (C : Option Addr) (p k : Nat) (D : Option Addr) (q l : Nat) (W : World), Ints W C p xs → Ints W D q ys → p ≤ 1048576 → q ≤ 1048576 → Calls Try.prog 20 #[.agg #[.slice C p k, .slice D q l, .int .i64 v], .int .i64 a] W (fun e w' => e = .returned (.tuple #[.int .i64 z, .bool ok]) ∧ New W w'))
    (w : World) (hx : Ints w A n xs) (hy : Ints w B m ys) (hn : n ≤ maxLen) (hm : m ≤ maxLen) :
    Calls Try.prog 4 #[.agg #[.slice A n c, .slice B m d, .int .i64 v], .int .i64 a] w fun e w' => e = .returned (.bool true) ∧ New w w' := by
  have AU : New w (w.alloc (.cells #[.slice A n c, .slice B m d, .int .i64 v] 24)) := by (repeat (first | exact New.refl _ | assumption | refine New.alloc ?_ _ | refine New.drew ?_ | refine New.drewN ?_ _ | refine New.setCell ?_ (by first | omega | (simp; omega) | (simp; done)) _ | refine New.trans ?_ (by assumption)))
  have HN0 := Lib.hid AU
  have LX := Lib.hid hx.len; have LY := Lib.hid hy.len
  have HX := Lib.hid hx; have HY := Lib.hid hy; have HNn := Lib.hid hn; have HMm := Lib.hid hm; unfold maxLen at hn hm
  have Ba := Lib.hid (B3.laid w (.slice A n c) (.slice B m d) (.int .i64 v) 24)
  have HI := Lib.hid hI; have HS := Lib.hid hS
  clear hx hy hI hS AU
  by_cases hb : 1048576 < n + m
  · go_enter Try.func4, Try.ntmps4
    go_wp2_with fail
    refine (szBuffers_no A n c B m d v HNn.out HMm.out hb _).mono ?_
    rintro e w' ⟨rfl, N1⟩
    have N1 := Lib.hid (HN0.out.trans N1)
    go_wp2
    go_ret
    exact ⟨rfl, N1.out⟩
  have hnb : n ≤ 1048576 := by omega
  have hmb : m ≤ 1048576 := by omega
  have hni : (n : Int) + (m : Int) ≤ 1048576 := by omega
  have hn0 : (0 : Int) ≤ (n : Int) := by omega
  have hm0 : (0 : Int) ≤ (m : Int) := by omega
  go_enter Try.func4, Try.ntmps4
  obtain ⟨_, v0a, v0b, v0c, _, _, _⟩ := Ba.out
  go_wp2_with fail
  refine (szBuffers_ok A n c B m d v (by omega) _).mono ?_
  rintro e w1 ⟨rfl, N1a⟩
  clear v0a v0b v0c
  have s1 : w.heap.size + 1 ≤ w1.heap.size := by { have := N1a.le; simpa using this }
  have Ba := Lib.hid (Ba.out.new N1a)
  have N1 := Lib.hid (HN0.out.trans N1a); clear N1a
  obtain ⟨_, v1a, v1b, v1c, _, _, _⟩ := Ba.out
  go_wp2_with fail
  refine (toBuffers_any A n c B m d v xs ys hnb hmb _ (HX.out.new N1.out) (HY.out.new N1.out)).mono ?_
  rintro e w2 ⟨A2, n2, c2, BB2, m2, d2, rfl, la2, lb2, r2, N2a⟩
  clear v1a v1b v1c
  have s2 : w1.heap.size ≤ w2.heap.size := by { have := N2a.le; simpa using this }
  have Ba := Lib.hid (Ba.out.new N2a)
  have N2 := Lib.hid (N1.out.trans N2a); clear N2a
  obtain ⟨_, v2a, v2b, v2c, _, _, _⟩ := Ba.out
  have R2 := Lib.hid (r2.mono (show w1.heap.size ≤ _ by simp) (Nat.le_refl _) (Nat.le_refl _)); have LA2 := Lib.hid la2; have LB2 := Lib.hid lb2
  have bn2 : n2 ≤ 1048576 := by { have := LA2.out; have := LX.out; omega }
  have bm2 : m2 ≤ 1048576 := by { have := LB2.out; have := LY.out; omega }
  have in2 : (n2 : Int) ≤ 1048576 := by omega
  have im2 : (m2 : Int) ≤ 1048576 := by omega
  have jn2 : (0 : Int) ≤ (n2 : Int) := by omega
  have jm2 : (0 : Int) ≤ (m2 : Int) := by omega
  clear la2 lb2 r2
  go_wp2_with fail
  refine (HS.out _ _ _ _ _ _ _ (R2.out.intsA LA2.out) (R2.out.intsB LB2.out) bn2 bm2).mono ?_
  rintro e w3 ⟨rfl, N3a⟩
  clear v2a v2b v2c
  have s3 : w2.heap.size ≤ w3.heap.size := by { have := N3a.le; simpa using this }
  have Ba := Lib.hid (Ba.out.new N3a)
  have R2 := Lib.hid (R2.out.new N3a)
  have N3 := Lib.hid (N2.out.trans N3a); clear N3a
  obtain ⟨_, v3a, v3b, v3c, _, _, _⟩ := Ba.out
  go_wp2_with fail
  refine (toBuffers_any A n c B m d v xs ys hnb hmb _ (HX.out.new N3.out) (HY.out.new N3.out)).mono ?_
  rintro e w4 ⟨A4, n4, c4, BB4, m4, d4, rfl, la4, lb4, r4, N4a⟩
  clear v3a v3b v3c
  have s4 : w3.heap.size ≤ w4.heap.size := by { have := N4a.le; simpa using this }
  have Ba := Lib.hid (Ba.out.new N4a)
  have R2 := Lib.hid (R2.out.new N4a)
  have N4 := Lib.hid (N3.out.trans N4a); clear N4a
  obtain ⟨_, v4a, v4b, v4c, _, _, _⟩ := Ba.out
  have R4 := Lib.hid (r4.mono (show w3.heap.size ≤ _ by simp) (Nat.le_refl _) (Nat.le_refl _)); have LA4 := Lib.hid la4; have LB4 := Lib.hid lb4
  have bn4 : n4 ≤ 1048576 := by { have := LA4.out; have := LX.out; omega }
  have bm4 : m4 ≤ 1048576 := by { have := LB4.out; have := LY.out; omega }
  have in4 : (n4 : Int) ≤ 1048576 := by omega
  have im4 : (m4 : Int) ≤ 1048576 := by omega
  have jn4 : (0 : Int) ≤ (n4 : Int) := by omega
  have jm4 : (0 : Int) ≤ (m4 : Int) := by omega
  clear la4 lb4 r4
  have AU : New w4 (w4.alloc (.cells #[.slice A4 n4 c4, .slice BB4 m4 d4, .int .i64 v] 27)) := by (repeat (first | exact New.refl _ | assumption | refine New.alloc ?_ _ | refine New.drew ?_ | refine New.drewN ?_ _ | refine New.setCell ?_ (by first | omega | (simp; omega) | (simp; done)) _ | refine New.trans ?_ (by assumption)))
  have Ba := Lib.hid (Ba.out.new AU)
  have R2 := Lib.hid (R2.out.new AU)
  have R4 := Lib.hid (R4.out.new AU)
  have Bx := Lib.hid (B3.laid w4 (.slice A4 n4 c4) (.slice BB4 m4 d4) (.int .i64 v) 27)
  have NBx := Lib.hid (N4.out.trans AU); clear AU
  obtain ⟨_, v5a, v5b, v5c, _, _, _⟩ := Ba.out
  obtain ⟨_, v6a, v6b, v6c, _, _, _⟩ := Bx.out
  go_wp2_with fail
  refine (HI.out _ _ _ _ _ _ _ (R4.out.intsA LA4.out) (R4.out.intsB LB4.out) bn4 bm4).mono ?_
  rintro e w5 ⟨rfl, N5a⟩
  clear v4a v4b v4c v5a v5b v5c v6a v6b v6c
  have s5 : w4.heap.size + 1 ≤ w5.heap.size := by { have := N5a.le; simpa using this }
  have Ba := Lib.hid (Ba.out.new N5a)
  have Bx := Lib.hid (Bx.out.new N5a)
  have R2 := Lib.hid (R2.out.new N5a)
  have R4 := Lib.hid (R4.out.new N5a)
  have N5 := Lib.hid (NBx.out.trans N5a); clear N5a
  obtain ⟨_, v7a, v7b, v7c, _, _, _⟩ := Ba.out
  obtain ⟨_, v8a, v8b, v8c, _, _, _⟩ := Bx.out
  have AU : New w5 w5.drew := (New.refl _).drew
  have Ba := Lib.hid (Ba.out.new AU)
  have Bx := Lib.hid (Bx.out.new AU)
  have R2 := Lib.hid (R2.out.new AU)
  have R4 := Lib.hid (R4.out.new AU)
  have ND5 := Lib.hid (N5.out.trans AU); clear AU
  have DZ : Hid (w5.drew.heap.size = w5.heap.size) := Lib.hid (by show w5.heap.size = _; simp)
  have K0 := And.intro Ba.out.c0 (And.intro Ba.out.c1 (And.intro Ba.out.c2 (And.intro Bx.out.c0 (And.intro Bx.out.c1 Bx.out.c2))))
  go_wp2
  clear v7a v7b v7c v8a v8b v8c
  go_region_held3 (fun w' => w'.cell? ⟨w.heap.size, 0, none⟩ = some (.slice A n c) ∧ w'.cell? ⟨w.heap.size, 1, none⟩ = some (.slice B m d) ∧ w'.cell? ⟨w.heap.size, 2, none⟩ = some (.int .i64 v) ∧ w'.cell? ⟨w4.heap.size, 0, none⟩ = some (.slice A4 n4 c4) ∧ w'.cell? ⟨w4.heap.size, 1, none⟩ = some (.slice BB4 m4 d4) ∧ w'.cell? ⟨w4.heap.size, 2, none⟩ = some (.int .i64 v))
    (first | exact K2 | exact K1 | exact K0)
    (first
      | ((go_at_call 17); (refine (toBuffers_any A n c B m d v xs ys hnb hmb _ (HX.out.new ND5.out) (HY.out.new ND5.out)).mono ?_); (rintro e w6 ⟨A6, n6, c6, BB6, m6, d6, rfl, la6, lb6, r6, N6a⟩); (have s6 := N6a.le); (rw [DZ.out] at s6); (have Ba := Lib.hid (Ba.out.new N6a)); (have Bx := Lib.hid (Bx.out.new N6a)); (have R2 := Lib.hid (R2.out.new N6a)); (have R4 := Lib.hid (R4.out.new N6a)); (have N6 := Lib.hid (ND5.out.trans N6a)); (clear N6a); (have R6 := Lib.hid (r6.mono (Nat.le_of_eq DZ.out.symm) (Nat.le_refl _) (Nat.le_refl _))); (have LA6 := Lib.hid la6); (have LB6 := Lib.hid lb6); (have bn6 : n6 ≤ 1048576 := by { have := LA6.out; have := LX.out; omega }); (have bm6 : m6 ≤ 1048576 := by { have := LB6.out; have := LY.out; omega }); (have in6 : (n6 : Int) ≤ 1048576 := by omega); (have im6 : (m6 : Int) ≤ 1048576 := by omega); (have jn6 : (0 : Int) ≤ (n6 : Int) := by omega); (have jm6 : (0 : Int) ≤ (m6 : Int) := by omega); (clear la6 lb6 r6); (have K1 := And.intro Ba.out.c0 (And.intro Ba.out.c1 (And.intro Ba.out.c2 (And.intro Bx.out.c0 (And.intro Bx.out.c1 Bx.out.c2))))))
      | ((go_at_call 19); (refine (eqBuffers_any _ _ _ _ _ _ _ _ _ _ _ _ _ _ _ bn4 bm4 bn6 bm6 _ (R4.out.intsA LA4.out) (R4.out.intsB LB4.out) (R6.out.intsA LA6.out) (R6.out.intsB LB6.out)).mono ?_); (rintro e w7 ⟨rfl, N7a⟩); (have s7 : w6.heap.size ≤ w7.heap.size := by { have := N7a.le; simpa using this }); (have Ba := Lib.hid (Ba.out.new N7a)); (have Bx := Lib.hid (Bx.out.new N7a)); (have R2 := Lib.hid (R2.out.new N7a)); (have R4 := Lib.hid (R4.out.new N7a)); (have R6 := Lib.hid (R6.out.new N7a)); (have N7 := Lib.hid (N6.out.trans N7a)); (clear N7a); (have K2 := And.intro Ba.out.c0 (And.intro Ba.out.c1 (And.intro Ba.out.c2 (And.intro Bx.out.c0 (And.intro Bx.out.c1 Bx.out.c2)))))))
  clear K0 K1 K2
  obtain ⟨_, v9a, v9b, v9c, _, _, _⟩ := Ba.out
  obtain ⟨_, v10a, v10b, v10c, _, _, _⟩ := Bx.out
  go_wp2
  go_ret
  exact ⟨rfl, N7.out⟩
end Go.Proofs.Ytopnegbaieflpaa
