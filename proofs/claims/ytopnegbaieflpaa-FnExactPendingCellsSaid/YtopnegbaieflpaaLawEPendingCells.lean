/- The law FnExactPendingCells, walked over what both functions do: whatever the buffers, both answers are the same, the arguments are left alone, and the answer shares no memory. Conditions: the arguments can be read; both functions answer alike. -/
import Derived.Test.YtopnegbaieflpaaBuf
import Derived.Deep.RegionHeld3
namespace Go.Proofs.Ytopnegbaieflpaa
open Go.RowKit

set_option maxRecDepth 100000 in
set_option maxHeartbeats 4000000 in
theorem lawExactPendingCells (A : Option Addr) (n c : Nat) (B : Option Addr) (m d : Nat) (v : Int) (xs ys : List Int) (zs : List Int) (hz : zs.length ≤ 1048576)
    (hI : ∀ (C : Option Addr) (p k : Nat) (D : Option Addr) (q l : Nat) (W : World), Ints W C p xs → Ints W D q ys → p ≤ 1048576 → q ≤ 1048576 → Calls Try.prog 31 #[.agg #[.slice C p k, .slice D q l, .int .i64 v]] W (Ans W zs))
    (hS : ∀ (C : Option Addr) (p k : Nat) (D : Option Addr) (q l : Nat) (W : World), Ints W C p xs → Ints W D q ys → p ≤ 1048576 → q ≤ 1048576 → Calls Try.prog 30 #[.agg #[.slice C p k, .slice D q l, .int .i64 v]] W (Ans W zs))
    (w : World) (hx : Ints w A n xs) (hy : Ints w B m ys) (hn : n ≤ maxLen) (hm : m ≤ maxLen) :
    Calls Try.prog 8 #[.agg #[.slice A n c, .slice B m d, .int .i64 v]] w fun e w' => e = .returned (.bool true) ∧ New w w' := by
  have AU : New w (w.alloc (.cells #[.slice A n c, .slice B m d, .int .i64 v] 24)) := by (repeat (first | exact New.refl _ | assumption | refine New.alloc ?_ _ | refine New.drew ?_ | refine New.drewN ?_ _ | refine New.setCell ?_ (by first | omega | (simp; omega) | (simp; done)) _ | refine New.trans ?_ (by assumption)))
  have HN0 := Lib.hid AU
  have LX := Lib.hid hx.len; have LY := Lib.hid hy.len
  have HX := Lib.hid hx; have HY := Lib.hid hy; have HNn := Lib.hid hn; have HMm := Lib.hid hm; unfold maxLen at hn hm
  have Ba := Lib.hid (B3.laid w (.slice A n c) (.slice B m d) (.int .i64 v) 24)
  have HI := Lib.hid hI; have HS := Lib.hid hS
  clear hx hy hI hS AU
  by_cases hb : 1048576 < n + m
  · go_enter Try.func8, Try.ntmps8
    go_wp2_with fail
    refine (szBuffers_no A n c B m d v HNn.out HMm.out hb _).mono ?_
    rintro e w' ⟨rfl, N1⟩
    have N1 := Lib.hid (HN0.out.trans N1)
    go_wp2
    go_ret
    exact ⟨rfl, N1.out⟩
  have hnb : n ≤ 1048576 := by omega
  have hmb : m ≤ 1048576 := by omega
  have hni : (n : Int) + (m : Int) ≤ 1048576 := by omega
  have hn0 : (0 : Int) ≤ (n : Int) := by omega
  have hm0 : (0 : Int) ≤ (m : Int) := by omega
  go_enter Try.func8, Try.ntmps8
  obtain ⟨_, v0a, v0b, v0c, _, _, _⟩ := Ba.out
  go_wp2_with fail
  refine (szBuffers_ok A n c B m d v (by omega) _).mono ?_
  rintro e w1 ⟨rfl, N1a⟩
  clear v0a v0b v0c
  have s1 : w.heap.size + 1 ≤ w1.heap.size := by { have := N1a.le; simpa using this }
  have Ba := Lib.hid (Ba.out.new N1a)
  have N1 := Lib.hid (HN0.out.trans N1a); clear N1a
  obtain ⟨_, v1a, v1b, v1c, _, _, _⟩ := Ba.out
  go_wp2_with fail
  refine (toBuffers_any A n c B m d v xs ys hnb hmb _ (HX.out.new N1.out) (HY.out.new N1.out)).mono ?_
  rintro e w2 ⟨A2, n2, c2, BB2, m2, d2, rfl, la2, lb2, r2, N2a⟩
  clear v1a v1b v1c
  have s2 : w1.heap.size ≤ w2.heap.size := by { have := N2a.le; simpa using this }
  have Ba := Lib.hid (Ba.out.new N2a)
  have N2 := Lib.hid (N1.out.trans N2a); clear N2a
  obtain ⟨_, v2a, v2b, v2c, _, _, _⟩ := Ba.out
  have R2 := Lib.hid (r2.mono (show w1.heap.size ≤ _ by simp) (Nat.le_refl _) (Nat.le_refl _)); have LA2 := Lib.hid la2; have LB2 := Lib.hid lb2
  have bn2 : n2 ≤ 1048576 := by { have := LA2.out; have := LX.out; omega }
  have bm2 : m2 ≤ 1048576 := by { have := LB2.out; have := LY.out; omega }
  have in2 : (n2 : Int) ≤ 1048576 := by omega
  have im2 : (m2 : Int) ≤ 1048576 := by omega
  have jn2 : (0 : Int) ≤ (n2 : Int) := by omega
  have jm2 : (0 : Int) ≤ (m2 : Int) := by omega
  clear la2 lb2 r2
  go_wp2_with fail
  refine (HS.out _ _ _ _ _ _ _ (R2.out.intsA LA2.out) (R2.out.intsB LB2.out) bn2 bm2).mono ?_
  rintro e w3 ⟨A3, n3, c3, rfl, la3, r3, N3a⟩
  clear v2a v2b v2c
  have s3 : w2.heap.size ≤ w3.heap.size := by { have := N3a.le; simpa using this }
  have Ba := Lib.hid (Ba.out.new N3a)
  have R2 := Lib.hid (R2.out.new N3a)
  have N3 := Lib.hid (N2.out.trans N3a); clear N3a
  obtain ⟨_, v3a, v3b, v3c, _, _, _⟩ := Ba.out
  have R3 := Lib.hid (r3.mono (show w2.heap.size ≤ _ by simp) (Nat.le_refl _) (Nat.le_refl _)); have LA3 := Lib.hid la3
  have bn3 : n3 ≤ 1048576 := by { have := LA3.out; omega }
  have in3 : (n3 : Int) ≤ 1048576 := by omega
  have jn3 : (0 : Int) ≤ (n3 : Int) := by omega
  clear la3 r3
  go_wp2_with fail
  refine (toBuffers_any A n c B m d v xs ys hnb hmb _ (HX.out.new N3.out) (HY.out.new N3.out)).mono ?_
  rintro e w4 ⟨A4, n4, c4, BB4, m4, d4, rfl, la4, lb4, r4, N4a⟩
  clear v3a v3b v3c
  have s4 : w3.heap.size ≤ w4.heap.size := by { have := N4a.le; simpa using this }
  have Ba := Lib.hid (Ba.out.new N4a)
  have R2 := Lib.hid (R2.out.new N4a)
  have R3 := Lib.hid (R3.out.new N4a)
  have N4 := Lib.hid (N3.out.trans N4a); clear N4a
  obtain ⟨_, v4a, v4b, v4c, _, _, _⟩ := Ba.out
  have R4 := Lib.hid (r4.mono (show w3.heap.size ≤ _ by simp) (Nat.le_refl _) (Nat.le_refl _)); have LA4 := Lib.hid la4; have LB4 := Lib.hid lb4
  have bn4 : n4 ≤ 1048576 := by { have := LA4.out; have := LX.out; omega }
  have bm4 : m4 ≤ 1048576 := by { have := LB4.out; have := LY.out; omega }
  have in4 : (n4 : Int) ≤ 1048576 := by omega
  have im4 : (m4 : Int) ≤ 1048576 := by omega
  have jn4 : (0 : Int) ≤ (n4 : Int) := by omega
  have jm4 : (0 : Int) ≤ (m4 : Int) := by omega
  clear la4 lb4 r4
  have AU : New w4 (w4.alloc (.cells #[.slice A4 n4 c4, .slice BB4 m4 d4, .int .i64 v] 27)) := by (repeat (first | exact New.refl _ | assumption | refine New.alloc ?_ _ | refine New.drew ?_ | refine New.drewN ?_ _ | refine New.setCell ?_ (by first | omega | (simp; omega) | (simp; done)) _ | refine New.trans ?_ (by assumption)))
  have Ba := Lib.hid (Ba.out.new AU)
  have R2 := Lib.hid (R2.out.new AU)
  have R3 := Lib.hid (R3.out.new AU)
  have R4 := Lib.hid (R4.out.new AU)
  have Bx := Lib.hid (B3.laid w4 (.slice A4 n4 c4) (.slice BB4 m4 d4) (.int .i64 v) 27)
  have NBx := Lib.hid (N4.out.trans AU); clear AU
  obtain ⟨_, v5a, v5b, v5c, _, _, _⟩ := Ba.out
  obtain ⟨_, v6a, v6b, v6c, _, _, _⟩ := Bx.out
  go_wp2_with fail
  refine (HI.out _ _ _ _ _ _ _ (R4.out.intsA LA4.out) (R4.out.intsB LB4.out) bn4 bm4).mono ?_
  rintro e w5 ⟨A5, n5, c5, rfl, la5, r5, N5a⟩
  clear v4a v4b v4c v5a v5b v5c v6a v6b v6c
  have s5 : w4.heap.size + 1 ≤ w5.heap.size := by { have := N5a.le; simpa using this }
  have Ba := Lib.hid (Ba.out.new N5a)
  have Bx := Lib.hid (Bx.out.new N5a)
  have R2 := Lib.hid (R2.out.new N5a)
  have R3 := Lib.hid (R3.out.new N5a)
  have R4 := Lib.hid (R4.out.new N5a)
  have N5 := Lib.hid (NBx.out.trans N5a); clear N5a
  obtain ⟨_, v7a, v7b, v7c, _, _, _⟩ := Ba.out
  obtain ⟨_, v8a, v8b, v8c, _, _, _⟩ := Bx.out
  have R5 := Lib.hid (r5.mono (show w4.heap.size + 1 ≤ _ by simp) (Nat.le_refl _) (Nat.le_refl _)); have LA5 := Lib.hid la5
  have bn5 : n5 ≤ 1048576 := by { have := LA5.out; omega }
  have in5 : (n5 : Int) ≤ 1048576 := by omega
  have jn5 : (0 : Int) ≤ (n5 : Int) := by omega
  clear la5 r5
  go_wp2_with fail
  refine (eqRes_any _ _ _ _ _ _ _ _ bn5 bn3 _ (R5.out.ints LA5.out) (R3.out.ints LA3.out) rfl).mono ?_
  rintro e w6 ⟨rfl, N6a⟩
  clear v7a v7b v7c v8a v8b v8c
  have s6 : w5.heap.size ≤ w6.heap.size := by { have := N6a.le; simpa using this }
  have Ba := Lib.hid (Ba.out.new N6a)
  have Bx := Lib.hid (Bx.out.new N6a)
  have R2 := Lib.hid (R2.out.new N6a)
  have R3 := Lib.hid (R3.out.new N6a)
  have R4 := Lib.hid (R4.out.new N6a)
  have R5 := Lib.hid (R5.out.new N6a)
  have N6 := Lib.hid (N5.out.trans N6a); clear N6a
  obtain ⟨_, v9a, v9b, v9c, _, _, _⟩ := Ba.out
  obtain ⟨_, v10a, v10b, v10c, _, _, _⟩ := Bx.out
  have AU : New w6 w6.drew := (New.refl _).drew
  have Ba := Lib.hid (Ba.out.new AU)
  have Bx := Lib.hid (Bx.out.new AU)
  have R2 := Lib.hid (R2.out.new AU)
  have R3 := Lib.hid (R3.out.new AU)
  have R4 := Lib.hid (R4.out.new AU)
  have R5 := Lib.hid (R5.out.new AU)
  have ND6 := Lib.hid (N6.out.trans AU); clear AU
  have DZ : Hid (w6.drew.heap.size = w6.heap.size) := Lib.hid (by show w6.heap.size = _; simp)
  have K0 := And.intro Ba.out.c0 (And.intro Ba.out.c1 (And.intro Ba.out.c2 (And.intro Bx.out.c0 (And.intro Bx.out.c1 Bx.out.c2))))
  go_wp2
  clear v9a v9b v9c v10a v10b v10c
  go_region_held3 (fun w' => w'.cell? ⟨w.heap.size, 0, none⟩ = some (.slice A n c) ∧ w'.cell? ⟨w.heap.size, 1, none⟩ = some (.slice B m d) ∧ w'.cell? ⟨w.heap.size, 2, none⟩ = some (.int .i64 v) ∧ w'.cell? ⟨w4.heap.size, 0, none⟩ = some (.slice A4 n4 c4) ∧ w'.cell? ⟨w4.heap.size, 1, none⟩ = some (.slice BB4 m4 d4) ∧ w'.cell? ⟨w4.heap.size, 2, none⟩ = some (.int .i64 v))
    (first | exact K2 | exact K1 | exact K0)
    (first
      | ((go_at_call 17); (refine (toBuffers_any A n c B m d v xs ys hnb hmb _ (HX.out.new ND6.out) (HY.out.new ND6.out)).mono ?_); (rintro e w7 ⟨A7, n7, c7, BB7, m7, d7, rfl, la7, lb7, r7, N7a⟩); (have s7 := N7a.le); (rw [DZ.out] at s7); (have Ba := Lib.hid (Ba.out.new N7a)); (have Bx := Lib.hid (Bx.out.new N7a)); (have R2 := Lib.hid (R2.out.new N7a)); (have R3 := Lib.hid (R3.out.new N7a)); (have R4 := Lib.hid (R4.out.new N7a)); (have R5 := Lib.hid (R5.out.new N7a)); (have N7 := Lib.hid (ND6.out.trans N7a)); (clear N7a); (have R7 := Lib.hid (r7.mono (Nat.le_of_eq DZ.out.symm) (Nat.le_refl _) (Nat.le_refl _))); (have LA7 := Lib.hid la7); (have LB7 := Lib.hid lb7); (have bn7 : n7 ≤ 1048576 := by { have := LA7.out; have := LX.out; omega }); (have bm7 : m7 ≤ 1048576 := by { have := LB7.out; have := LY.out; omega }); (have in7 : (n7 : Int) ≤ 1048576 := by omega); (have im7 : (m7 : Int) ≤ 1048576 := by omega); (have jn7 : (0 : Int) ≤ (n7 : Int) := by omega); (have jm7 : (0 : Int) ≤ (m7 : Int) := by omega); (clear la7 lb7 r7); (have K1 := And.intro Ba.out.c0 (And.intro Ba.out.c1 (And.intro Ba.out.c2 (And.intro Bx.out.c0 (And.intro Bx.out.c1 Bx.out.c2))))))
      | ((go_at_call 19); (refine (eqBuffers_any _ _ _ _ _ _ _ _ _ _ _ _ _ _ _ bn4 bm4 bn7 bm7 _ (R4.out.intsA LA4.out) (R4.out.intsB LB4.out) (R7.out.intsA LA7.out) (R7.out.intsB LB7.out)).mono ?_); (rintro e w8 ⟨rfl, N8a⟩); (have s8 : w7.heap.size ≤ w8.heap.size := by { have := N8a.le; simpa using this }); (have Ba := Lib.hid (Ba.out.new N8a)); (have Bx := Lib.hid (Bx.out.new N8a)); (have R2 := Lib.hid (R2.out.new N8a)); (have R3 := Lib.hid (R3.out.new N8a)); (have R4 := Lib.hid (R4.out.new N8a)); (have R5 := Lib.hid (R5.out.new N8a)); (have R7 := Lib.hid (R7.out.new N8a)); (have N8 := Lib.hid (N7.out.trans N8a)); (clear N8a); (have K2 := And.intro Ba.out.c0 (And.intro Ba.out.c1 (And.intro Ba.out.c2 (And.intro Bx.out.c0 (And.intro Bx.out.c1 Bx.out.c2)))))))
  clear K0 K1 K2
  obtain ⟨_, v11a, v11b, v11c, _, _, _⟩ := Ba.out
  obtain ⟨_, v12a, v12b, v12c, _, _, _⟩ := Bx.out
  go_wp2_with fail
  refine (markBuffers_any _ _ _ _ _ _ _ _ _ _ _ bn4 bm4 LA4.out LB4.out _ R4.out).mono ?_
  rintro e w9 ⟨rfl, _, C9⟩
  clear v11a v11b v11c v12a v12b v12c
  have s9 : w8.heap.size ≤ w9.heap.size := by have := C9.size; simpa using this
  have Ba := Lib.hid (Ba.out.chg C9 (by omega))
  have Bx := Lib.hid (Bx.out.chg C9 (by omega))
  have R2 := Lib.hid (R2.out.chg C9 (by omega))
  have R3 := Lib.hid (R3.out.chg C9 (by omega))
  have R5 := Lib.hid (R5.out.chg C9 (by omega))
  have R7 := Lib.hid (R7.out.chg C9 (by omega))
  have N9 := Lib.hid (N8.out.chgs C9 (by omega)); clear C9
  obtain ⟨_, v13a, v13b, v13c, _, _, _⟩ := Ba.out
  obtain ⟨_, v14a, v14b, v14c, _, _, _⟩ := Bx.out
  go_wp2_with fail
  refine (eqRes_any _ _ _ _ _ _ _ _ bn5 bn3 _ (R5.out.ints LA5.out) (R3.out.ints LA3.out) rfl).mono ?_
  rintro e w10 ⟨rfl, N10a⟩
  clear v13a v13b v13c v14a v14b v14c
  have s10 : w9.heap.size ≤ w10.heap.size := by { have := N10a.le; simpa using this }
  have Ba := Lib.hid (Ba.out.new N10a)
  have Bx := Lib.hid (Bx.out.new N10a)
  have R2 := Lib.hid (R2.out.new N10a)
  have R3 := Lib.hid (R3.out.new N10a)
  have R5 := Lib.hid (R5.out.new N10a)
  have R7 := Lib.hid (R7.out.new N10a)
  have N10 := Lib.hid (N9.out.trans N10a); clear N10a
  obtain ⟨_, v15a, v15b, v15c, _, _, _⟩ := Ba.out
  obtain ⟨_, v16a, v16b, v16c, _, _, _⟩ := Bx.out
  go_wp2_with fail
  refine (markRes_any _ _ _ _ _ _ 1 (by omega) (by omega) bn5 LA5.out _ R5.out).mono ?_
  rintro e w11 ⟨rfl, M11, C11⟩
  clear v15a v15b v15c v16a v16b v16c
  have s11 : w10.heap.size ≤ w11.heap.size := by have := C11.size; simpa using this
  have Ba := Lib.hid (Ba.out.chg C11 (by omega))
  have Bx := Lib.hid (Bx.out.chg C11 (by omega))
  have R2 := Lib.hid (R2.out.chg C11 (by omega))
  have R3 := Lib.hid (R3.out.chg C11 (by omega))
  have R7 := Lib.hid (R7.out.chg C11 (by omega))
  have N11 := Lib.hid (N10.out.chgs C11 (by omega)); clear C11
  have M11 := Lib.hid M11
  obtain ⟨_, v17a, v17b, v17c, _, _, _⟩ := Ba.out
  obtain ⟨_, v18a, v18b, v18c, _, _, _⟩ := Bx.out
  go_wp2_with fail
  refine (heldRes_any _ _ _ _ _ 1 (by omega) (by omega) bn5 _ M11.out).mono ?_
  rintro e w' ⟨rfl, rfl⟩
  go_wp2_with fail
  refine (toBuffers_any A n c B m d v xs ys hnb hmb _ (HX.out.new N11.out) (HY.out.new N11.out)).mono ?_
  rintro e w12 ⟨A12, n12, c12, BB12, m12, d12, rfl, la12, lb12, r12, N12a⟩
  clear v17a v17b v17c v18a v18b v18c
  have s12 : w11.heap.size ≤ w12.heap.size := by { have := N12a.le; simpa using this }
  have Ba := Lib.hid (Ba.out.new N12a)
  have Bx := Lib.hid (Bx.out.new N12a)
  have R2 := Lib.hid (R2.out.new N12a)
  have R3 := Lib.hid (R3.out.new N12a)
  have R7 := Lib.hid (R7.out.new N12a)
  have M11 := Lib.hid (M11.out.new N12a)
  have N12 := Lib.hid (N11.out.trans N12a); clear N12a
  obtain ⟨_, v19a, v19b, v19c, _, _, _⟩ := Ba.out
  obtain ⟨_, v20a, v20b, v20c, _, _, _⟩ := Bx.out
  have R12 := Lib.hid (r12.mono (show w11.heap.size ≤ _ by simp) (Nat.le_refl _) (Nat.le_refl _)); have LA12 := Lib.hid la12; have LB12 := Lib.hid lb12
  have bn12 : n12 ≤ 1048576 := by { have := LA12.out; have := LX.out; omega }
  have bm12 : m12 ≤ 1048576 := by { have := LB12.out; have := LY.out; omega }
  have in12 : (n12 : Int) ≤ 1048576 := by omega
  have im12 : (m12 : Int) ≤ 1048576 := by omega
  have jn12 : (0 : Int) ≤ (n12 : Int) := by omega
  have jm12 : (0 : Int) ≤ (m12 : Int) := by omega
  clear la12 lb12 r12
  go_wp2_with fail
  refine (HI.out _ _ _ _ _ _ _ (R12.out.intsA LA12.out) (R12.out.intsB LB12.out) bn12 bm12).mono ?_
  rintro e w13 ⟨A13, n13, c13, rfl, la13, r13, N13a⟩
  clear v19a v19b v19c v20a v20b v20c
  have s13 : w12.heap.size ≤ w13.heap.size := by { have := N13a.le; simpa using this }
  have Ba := Lib.hid (Ba.out.new N13a)
  have Bx := Lib.hid (Bx.out.new N13a)
  have R2 := Lib.hid (R2.out.new N13a)
  have R3 := Lib.hid (R3.out.new N13a)
  have R7 := Lib.hid (R7.out.new N13a)
  have M11 := Lib.hid (M11.out.new N13a)
  have R12 := Lib.hid (R12.out.new N13a)
  have N13 := Lib.hid (N12.out.trans N13a); clear N13a
  obtain ⟨_, v21a, v21b, v21c, _, _, _⟩ := Ba.out
  obtain ⟨_, v22a, v22b, v22c, _, _, _⟩ := Bx.out
  have R13 := Lib.hid (r13.mono (show w12.heap.size ≤ _ by simp) (Nat.le_refl _) (Nat.le_refl _)); have LA13 := Lib.hid la13
  have bn13 : n13 ≤ 1048576 := by { have := LA13.out; omega }
  have in13 : (n13 : Int) ≤ 1048576 := by omega
  have jn13 : (0 : Int) ≤ (n13 : Int) := by omega
  clear la13 r13
  go_wp2_with fail
  refine (eqRes_any _ _ _ _ _ _ _ _ bn13 bn3 _ (R13.out.ints LA13.out) (R3.out.ints LA3.out) rfl).mono ?_
  rintro e w14 ⟨rfl, N14a⟩
  clear v21a v21b v21c v22a v22b v22c
  have s14 : w13.heap.size ≤ w14.heap.size := by { have := N14a.le; simpa using this }
  have Ba := Lib.hid (Ba.out.new N14a)
  have Bx := Lib.hid (Bx.out.new N14a)
  have R2 := Lib.hid (R2.out.new N14a)
  have R3 := Lib.hid (R3.out.new N14a)
  have R7 := Lib.hid (R7.out.new N14a)
  have M11 := Lib.hid (M11.out.new N14a)
  have R12 := Lib.hid (R12.out.new N14a)
  have R13 := Lib.hid (R13.out.new N14a)
  have N14 := Lib.hid (N13.out.trans N14a); clear N14a
  obtain ⟨_, v23a, v23b, v23c, _, _, _⟩ := Ba.out
  obtain ⟨_, v24a, v24b, v24c, _, _, _⟩ := Bx.out
  go_wp2_with fail
  refine (heldRes_any _ _ _ _ _ 1 (by omega) (by omega) bn5 _ M11.out).mono ?_
  rintro e w' ⟨rfl, rfl⟩
  go_wp2
  go_ret
  exact ⟨rfl, N14.out⟩
end Go.Proofs.Ytopnegbaieflpaa
