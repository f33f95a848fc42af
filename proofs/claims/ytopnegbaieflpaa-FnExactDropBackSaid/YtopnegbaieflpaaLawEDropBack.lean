/- The law FnExactDropBack, walked over what both functions do: whatever the buffers, both answers are the same, the arguments are left alone, and the answer shares no memory. Conditions: the arguments can be read; both functions answer alike. -/
import Derived.Test.YtopnegbaieflpaaBuf
import Derived.Deep.RegionHeld3
namespace Go.Proofs.Ytopnegbaieflpaa
open Go.RowKit

set_option maxRecDepth 100000 in
set_option maxHeartbeats 4000000 in
theorem lawExactDropBack (A : Option Addr) (n c : Nat) (B : Option Addr) (m d : Nat) (v : Int) (xs ys : List Int) (ok : Bool) (rv : Int) (rx ry : List Int) (hrx : rx.length ≤ 1048576) (hry : ry.length ≤ 1048576)
    (hI : ∀ (C : Option Addr) (p k : Nat) (D : Option Addr) (q l : Nat) (W : World), Ints W C p xs → Ints W D q ys → p ≤ 1048576 → q ≤ 1048576 → Calls Try.prog 29 #[.agg #[.slice C p k, .slice D q l, .int .i64 v]] W (AnsBT W ok rv rx ry))
    (hS : ∀ (C : Option Addr) (p k : Nat) (D : Option Addr) (q l : Nat) (W : World), Ints W C p xs → Ints W D q ys → p ≤ 1048576 → q ≤ 1048576 → Calls Try.prog 28 #[.agg #[.slice C p k, .slice D q l, .int .i64 v]] W (AnsBT W ok rv rx ry))
    (w : World) (hx : Ints w A n xs) (hy : Ints w B m ys) (hn : n ≤ maxLen) (hm : m ≤ maxLen) :
    Calls Try.prog 7 #[.agg #[.slice A n c, .slice B m d, .int .i64 v]] w fun e w' => e = .returned (.bool true) ∧ New w w' := by
  have AU : New w (w.alloc (.cells #[.slice A n c, .slice B m d, .int .i64 v] 24)) := by (repeat (first | exact New.refl _ | assumption | refine New.alloc ?_ _ | refine New.drew ?_ | refine New.drewN ?_ _ | refine New.setCell ?_ (by first | omega | (simp; omega) | (simp; done)) _ | refine New.trans ?_ (by assumption)))
  have HN0 := Lib.hid AU
  have LX := Lib.hid hx.len; have LY := Lib.hid hy.len
  have HX := Lib.hid hx; have HY := Lib.hid hy; have HNn := Lib.hid hn; have HMm := Lib.hid hm; unfold maxLen at hn hm
  have Ba := Lib.hid (B3.laid w (.slice A n c) (.slice B m d) (.int .i64 v) 24)
  have HI := Lib.hid hI; have HS := Lib.hid hS
  clear hx hy hI hS AU
  by_cases hb : 1048576 < n + m
  · go_enter Try.func7, Try.ntmps7
    go_wp2_with fail
    refine (szBuffers_no A n c B m d v HNn.out HMm.out hb _).mono ?_
    rintro e w' ⟨rfl, N1⟩
    have N1 := Lib.hid (HN0.out.trans N1)
    go_wp2
    go_ret
    exact ⟨rfl, N1.out⟩
  have hnb : n ≤ 1048576 := by omega
  have hmb : m ≤ 1048576 := by omega
  have hni : (n : Int) + (m : Int) ≤ 1048576 := by omega
  have hn0 : (0 : Int) ≤ (n : Int) := by omega
  have hm0 : (0 : Int) ≤ (m : Int) := by omega
  go_enter Try.func7, Try.ntmps7
  obtain ⟨_, v0a, v0b, v0c, _, _, _⟩ := Ba.out
  go_wp2_with fail
  refine (szBuffers_ok A n c B m d v (by omega) _).mono ?_
  rintro e w1 ⟨rfl, N1a⟩
  clear v0a v0b v0c
  have s1 : w.heap.size + 1 ≤ w1.heap.size := by { have := N1a.le; simpa using this }
  have Ba := Lib.hid (Ba.out.new N1a)
  have N1 := Lib.hid (HN0.out.trans N1a); clear N1a
  obtain ⟨_, v1a, v1b, v1c, _, _, _⟩ := Ba.out
  go_wp2_with fail
  refine (toBuffers_any A n c B m d v xs ys hnb hmb _ (HX.out.new N1.out) (HY.out.new N1.out)).mono ?_
  rintro e w2 ⟨A2, n2, c2, BB2, m2, d2, rfl, la2, lb2, r2, N2a⟩
  clear v1a v1b v1c
  have s2 : w1.heap.size ≤ w2.heap.size := by { have := N2a.le; simpa using this }
  have Ba := Lib.hid (Ba.out.new N2a)
  have N2 := Lib.hid (N1.out.trans N2a); clear N2a
  obtain ⟨_, v2a, v2b, v2c, _, _, _⟩ := Ba.out
  have R2 := Lib.hid (r2.mono (show w1.heap.size ≤ _ by simp) (Nat.le_refl _) (Nat.le_refl _)); have LA2 := Lib.hid la2; have LB2 := Lib.hid lb2
  have bn2 : n2 ≤ 1048576 := by { have := LA2.out; have := LX.out; omega }
  have bm2 : m2 ≤ 1048576 := by { have := LB2.out; have := LY.out; omega }
  have in2 : (n2 : Int) ≤ 1048576 := by omega
  have im2 : (m2 : Int) ≤ 1048576 := by omega
  have jn2 : (0 : Int) ≤ (n2 : Int) := by omega
  have jm2 : (0 : Int) ≤ (m2 : Int) := by omega
  clear la2 lb2 r2
  go_wp2_with fail
  refine (HS.out _ _ _ _ _ _ _ (R2.out.intsA LA2.out) (R2.out.intsB LB2.out) bn2 bm2).mono ?_
  rintro e w3 ⟨A3, n3, c3, BB3, m3, d3, rfl, la3, lb3, r3, N3a⟩
  clear v2a v2b v2c
  have s3 : w2.heap.size ≤ w3.heap.size := by { have := N3a.le; simpa using this }
  have Ba := Lib.hid (Ba.out.new N3a)
  have R2 := Lib.hid (R2.out.new N3a)
  have N3 := Lib.hid (N2.out.trans N3a); clear N3a
  obtain ⟨_, v3a, v3b, v3c, _, _, _⟩ := Ba.out
  have R3 := Lib.hid (r3.mono (show w2.heap.size ≤ _ by simp) (Nat.le_refl _) (Nat.le_refl _)); have LA3 := Lib.hid la3; have LB3 := Lib.hid lb3
  have bn3 : n3 ≤ 1048576 := by { have := LA3.out; omega }
  have bm3 : m3 ≤ 1048576 := by { have := LB3.out; omega }
  have in3 : (n3 : Int) ≤ 1048576 := by omega
  have im3 : (m3 : Int) ≤ 1048576 := by omega
  have jn3 : (0 : Int) ≤ (n3 : Int) := by omega
  have jm3 : (0 : Int) ≤ (m3 : Int) := by omega
  clear la3 lb3 r3
  have AU : New w3 (w3.alloc (.cells #[.slice A3 n3 c3, .slice BB3 m3 d3, .int .i64 rv] 27)) := by (repeat (first | exact New.refl _ | assumption | refine New.alloc ?_ _ | refine New.drew ?_ | refine New.drewN ?_ _ | refine New.setCell ?_ (by first | omega | (simp; omega) | (simp; done)) _ | refine New.trans ?_ (by assumption)))
  have Ba := Lib.hid (Ba.out.new AU)
  have R2 := Lib.hid (R2.out.new AU)
  have R3 := Lib.hid (R3.out.new AU)
  have Bw := Lib.hid (B3.laid w3 (.slice A3 n3 c3) (.slice BB3 m3 d3) (.int .i64 rv) 27)
  have NBw := Lib.hid (N3.out.trans AU); clear AU
  obtain ⟨_, v4a, v4b, v4c, _, _, _⟩ := Ba.out
  obtain ⟨_, v5a, v5b, v5c, _, _, _⟩ := Bw.out
  go_wp2_with fail
  refine (toBuffers_any A n c B m d v xs ys hnb hmb _ (HX.out.new NBw.out) (HY.out.new NBw.out)).mono ?_
  rintro e w4 ⟨A4, n4, c4, BB4, m4, d4, rfl, la4, lb4, r4, N4a⟩
  clear v3a v3b v3c v4a v4b v4c v5a v5b v5c
  have s4 : w3.heap.size + 1 ≤ w4.heap.size := by { have := N4a.le; simpa using this }
  have Ba := Lib.hid (Ba.out.new N4a)
  have Bw := Lib.hid (Bw.out.new N4a)
  have R2 := Lib.hid (R2.out.new N4a)
  have R3 := Lib.hid (R3.out.new N4a)
  have N4 := Lib.hid (NBw.out.trans N4a); clear N4a
  obtain ⟨_, v6a, v6b, v6c, _, _, _⟩ := Ba.out
  obtain ⟨_, v7a, v7b, v7c, _, _, _⟩ := Bw.out
  have R4 := Lib.hid (r4.mono (show w3.heap.size + 1 ≤ _ by simp) (Nat.le_refl _) (Nat.le_refl _)); have LA4 := Lib.hid la4; have LB4 := Lib.hid lb4
  have bn4 : n4 ≤ 1048576 := by { have := LA4.out; have := LX.out; omega }
  have bm4 : m4 ≤ 1048576 := by { have := LB4.out; have := LY.out; omega }
  have in4 : (n4 : Int) ≤ 1048576 := by omega
  have im4 : (m4 : Int) ≤ 1048576 := by omega
  have jn4 : (0 : Int) ≤ (n4 : Int) := by omega
  have jm4 : (0 : Int) ≤ (m4 : Int) := by omega
  clear la4 lb4 r4
  have AU : New w4 (w4.alloc (.cells #[.slice A4 n4 c4, .slice BB4 m4 d4, .int .i64 v] 27)) := by (repeat (first | exact New.refl _ | assumption | refine New.alloc ?_ _ | refine New.drew ?_ | refine New.drewN ?_ _ | refine New.setCell ?_ (by first | omega | (simp; omega) | (simp; done)) _ | refine New.trans ?_ (by assumption)))
  have Ba := Lib.hid (Ba.out.new AU)
  have Bw := Lib.hid (Bw.out.new AU)
  have R2 := Lib.hid (R2.out.new AU)
  have R3 := Lib.hid (R3.out.new AU)
  have R4 := Lib.hid (R4.out.new AU)
  have Bx := Lib.hid (B3.laid w4 (.slice A4 n4 c4) (.slice BB4 m4 d4) (.int .i64 v) 27)
  have NBx := Lib.hid (N4.out.trans AU); clear AU
  obtain ⟨_, v8a, v8b, v8c, _, _, _⟩ := Ba.out
  obtain ⟨_, v9a, v9b, v9c, _, _, _⟩ := Bw.out
  obtain ⟨_, v10a, v10b, v10c, _, _, _⟩ := Bx.out
  go_wp2_with fail
  refine (HI.out _ _ _ _ _ _ _ (R4.out.intsA LA4.out) (R4.out.intsB LB4.out) bn4 bm4).mono ?_
  rintro e w5 ⟨A5, n5, c5, BB5, m5, d5, rfl, la5, lb5, r5, N5a⟩
  clear v6a v6b v6c v7a v7b v7c v8a v8b v8c v9a v9b v9c v10a v10b v10c
  have s5 : w4.heap.size + 1 ≤ w5.heap.size := by { have := N5a.le; simpa using this }
  have Ba := Lib.hid (Ba.out.new N5a)
  have Bw := Lib.hid (Bw.out.new N5a)
  have Bx := Lib.hid (Bx.out.new N5a)
  have R2 := Lib.hid (R2.out.new N5a)
  have R3 := Lib.hid (R3.out.new N5a)
  have R4 := Lib.hid (R4.out.new N5a)
  have N5 := Lib.hid (NBx.out.trans N5a); clear N5a
  obtain ⟨_, v11a, v11b, v11c, _, _, _⟩ := Ba.out
  obtain ⟨_, v12a, v12b, v12c, _, _, _⟩ := Bw.out
  obtain ⟨_, v13a, v13b, v13c, _, _, _⟩ := Bx.out
  have R5 := Lib.hid (r5.mono (show w4.heap.size + 1 ≤ _ by simp) (Nat.le_refl _) (Nat.le_refl _)); have LA5 := Lib.hid la5; have LB5 := Lib.hid lb5
  have bn5 : n5 ≤ 1048576 := by { have := LA5.out; omega }
  have bm5 : m5 ≤ 1048576 := by { have := LB5.out; omega }
  have in5 : (n5 : Int) ≤ 1048576 := by omega
  have im5 : (m5 : Int) ≤ 1048576 := by omega
  have jn5 : (0 : Int) ≤ (n5 : Int) := by omega
  have jm5 : (0 : Int) ≤ (m5 : Int) := by omega
  clear la5 lb5 r5
  have AU : New w5 (w5.alloc (.cells #[.slice A5 n5 c5, .slice BB5 m5 d5, .int .i64 rv] 27)) := by (repeat (first | exact New.refl _ | assumption | refine New.alloc ?_ _ | refine New.drew ?_ | refine New.drewN ?_ _ | refine New.setCell ?_ (by first | omega | (simp; omega) | (simp; done)) _ | refine New.trans ?_ (by assumption)))
  have Ba := Lib.hid (Ba.out.new AU)
  have Bw := Lib.hid (Bw.out.new AU)
  have Bx := Lib.hid (Bx.out.new AU)
  have R2 := Lib.hid (R2.out.new AU)
  have R3 := Lib.hid (R3.out.new AU)
  have R4 := Lib.hid (R4.out.new AU)
  have R5 := Lib.hid (R5.out.new AU)
  have Bg := Lib.hid (B3.laid w5 (.slice A5 n5 c5) (.slice BB5 m5 d5) (.int .i64 rv) 27)
  have NBg := Lib.hid (N5.out.trans AU); clear AU
  obtain ⟨_, v14a, v14b, v14c, _, _, _⟩ := Ba.out
  obtain ⟨_, v15a, v15b, v15c, _, _, _⟩ := Bw.out
  obtain ⟨_, v16a, v16b, v16c, _, _, _⟩ := Bx.out
  obtain ⟨_, v17a, v17b, v17c, _, _, _⟩ := Bg.out
  go_wp2_with fail
  refine (eqBuffers_any _ _ _ _ _ _ _ _ _ _ _ _ _ _ _ bn5 bm5 bn3 bm3 _ (R5.out.intsA LA5.out) (R5.out.intsB LB5.out) (R3.out.intsA LA3.out) (R3.out.intsB LB3.out)).mono ?_
  rintro e w6 ⟨rfl, N6a⟩
  clear v11a v11b v11c v12a v12b v12c v13a v13b v13c v14a v14b v14c v15a v15b v15c v16a v16b v16c v17a v17b v17c
  have s6 : w5.heap.size + 1 ≤ w6.heap.size := by { have := N6a.le; simpa using this }
  have Ba := Lib.hid (Ba.out.new N6a)
  have Bw := Lib.hid (Bw.out.new N6a)
  have Bx := Lib.hid (Bx.out.new N6a)
  have Bg := Lib.hid (Bg.out.new N6a)
  have R2 := Lib.hid (R2.out.new N6a)
  have R3 := Lib.hid (R3.out.new N6a)
  have R4 := Lib.hid (R4.out.new N6a)
  have R5 := Lib.hid (R5.out.new N6a)
  have N6 := Lib.hid (NBg.out.trans N6a); clear N6a
  obtain ⟨_, v18a, v18b, v18c, _, _, _⟩ := Ba.out
  obtain ⟨_, v19a, v19b, v19c, _, _, _⟩ := Bw.out
  obtain ⟨_, v20a, v20b, v20c, _, _, _⟩ := Bx.out
  obtain ⟨_, v21a, v21b, v21c, _, _, _⟩ := Bg.out
  have AU : New w6 w6.drew := (New.refl _).drew
  have Ba := Lib.hid (Ba.out.new AU)
  have Bw := Lib.hid (Bw.out.new AU)
  have Bx := Lib.hid (Bx.out.new AU)
  have Bg := Lib.hid (Bg.out.new AU)
  have R2 := Lib.hid (R2.out.new AU)
  have R3 := Lib.hid (R3.out.new AU)
  have R4 := Lib.hid (R4.out.new AU)
  have R5 := Lib.hid (R5.out.new AU)
  have ND6 := Lib.hid (N6.out.trans AU); clear AU
  have DZ : Hid (w6.drew.heap.size = w6.heap.size) := Lib.hid (by show w6.heap.size = _; simp)
  have K0 := And.intro Ba.out.c0 (And.intro Ba.out.c1 (And.intro Ba.out.c2 (And.intro Bx.out.c0 (And.intro Bx.out.c1 Bx.out.c2))))
  go_wp2
  clear v18a v18b v18c v19a v19b v19c v20a v20b v20c v21a v21b v21c
  go_region_held3 (fun w' => w'.cell? ⟨w.heap.size, 0, none⟩ = some (.slice A n c) ∧ w'.cell? ⟨w.heap.size, 1, none⟩ = some (.slice B m d) ∧ w'.cell? ⟨w.heap.size, 2, none⟩ = some (.int .i64 v) ∧ w'.cell? ⟨w4.heap.size, 0, none⟩ = some (.slice A4 n4 c4) ∧ w'.cell? ⟨w4.heap.size, 1, none⟩ = some (.slice BB4 m4 d4) ∧ w'.cell? ⟨w4.heap.size, 2, none⟩ = some (.int .i64 v))
    (first | exact K2 | exact K1 | exact K0)
    (first
      | ((go_at_call 17); (refine (toBuffers_any A n c B m d v xs ys hnb hmb _ (HX.out.new ND6.out) (HY.out.new ND6.out)).mono ?_); (rintro e w7 ⟨A7, n7, c7, BB7, m7, d7, rfl, la7, lb7, r7, N7a⟩); (have s7 := N7a.le); (rw [DZ.out] at s7); (have Ba := Lib.hid (Ba.out.new N7a)); (have Bw := Lib.hid (Bw.out.new N7a)); (have Bx := Lib.hid (Bx.out.new N7a)); (have Bg := Lib.hid (Bg.out.new N7a)); (have R2 := Lib.hid (R2.out.new N7a)); (have R3 := Lib.hid (R3.out.new N7a)); (have R4 := Lib.hid (R4.out.new N7a)); (have R5 := Lib.hid (R5.out.new N7a)); (have N7 := Lib.hid (ND6.out.trans N7a)); (clear N7a); (have R7 := Lib.hid (r7.mono (Nat.le_of_eq DZ.out.symm) (Nat.le_refl _) (Nat.le_refl _))); (have LA7 := Lib.hid la7); (have LB7 := Lib.hid lb7); (have bn7 : n7 ≤ 1048576 := by { have := LA7.out; have := LX.out; omega }); (have bm7 : m7 ≤ 1048576 := by { have := LB7.out; have := LY.out; omega }); (have in7 : (n7 : Int) ≤ 1048576 := by omega); (have im7 : (m7 : Int) ≤ 1048576 := by omega); (have jn7 : (0 : Int) ≤ (n7 : Int) := by omega); (have jm7 : (0 : Int) ≤ (m7 : Int) := by omega); (clear la7 lb7 r7); (have K1 := And.intro Ba.out.c0 (And.intro Ba.out.c1 (And.intro Ba.out.c2 (And.intro Bx.out.c0 (And.intro Bx.out.c1 Bx.out.c2))))))
      | ((go_at_call 19); (refine (eqBuffers_any _ _ _ _ _ _ _ _ _ _ _ _ _ _ _ bn4 bm4 bn7 bm7 _ (R4.out.intsA LA4.out) (R4.out.intsB LB4.out) (R7.out.intsA LA7.out) (R7.out.intsB LB7.out)).mono ?_); (rintro e w8 ⟨rfl, N8a⟩); (have s8 : w7.heap.size ≤ w8.heap.size := by { have := N8a.le; simpa using this }); (have Ba := Lib.hid (Ba.out.new N8a)); (have Bw := Lib.hid (Bw.out.new N8a)); (have Bx := Lib.hid (Bx.out.new N8a)); (have Bg := Lib.hid (Bg.out.new N8a)); (have R2 := Lib.hid (R2.out.new N8a)); (have R3 := Lib.hid (R3.out.new N8a)); (have R4 := Lib.hid (R4.out.new N8a)); (have R5 := Lib.hid (R5.out.new N8a)); (have R7 := Lib.hid (R7.out.new N8a)); (have N8 := Lib.hid (N7.out.trans N8a)); (clear N8a); (have K2 := And.intro Ba.out.c0 (And.intro Ba.out.c1 (And.intro Ba.out.c2 (And.intro Bx.out.c0 (And.intro Bx.out.c1 Bx.out.c2)))))))
  clear K0 K1 K2
  obtain ⟨_, v22a, v22b, v22c, _, _, _⟩ := Ba.out
  obtain ⟨_, v23a, v23b, v23c, _, _, _⟩ := Bw.out
  obtain ⟨_, v24a, v24b, v24c, _, _, _⟩ := Bx.out
  obtain ⟨_, v25a, v25b, v25c, _, _, _⟩ := Bg.out
  go_wp2_with fail
  refine (markBuffers_any _ _ _ _ _ _ _ _ _ _ _ bn4 bm4 LA4.out LB4.out _ R4.out).mono ?_
  rintro e w9 ⟨rfl, _, C9⟩
  clear v22a v22b v22c v23a v23b v23c v24a v24b v24c v25a v25b v25c
  have s9 : w8.heap.size ≤ w9.heap.size := by have := C9.size; simpa using this
  have Ba := Lib.hid (Ba.out.chg C9 (by omega))
  have Bw := Lib.hid (Bw.out.chg C9 (by omega))
  have Bx := Lib.hid (Bx.out.chg C9 (by omega))
  have Bg := Lib.hid (Bg.out.chg C9 (by omega))
  have R2 := Lib.hid (R2.out.chg C9 (by omega))
  have R3 := Lib.hid (R3.out.chg C9 (by omega))
  have R5 := Lib.hid (R5.out.chg C9 (by omega))
  have R7 := Lib.hid (R7.out.chg C9 (by omega))
  have N9 := Lib.hid (N8.out.chgs C9 (by omega)); clear C9
  obtain ⟨_, v26a, v26b, v26c, _, _, _⟩ := Ba.out
  obtain ⟨_, v27a, v27b, v27c, _, _, _⟩ := Bw.out
  obtain ⟨_, v28a, v28b, v28c, _, _, _⟩ := Bx.out
  obtain ⟨_, v29a, v29b, v29c, _, _, _⟩ := Bg.out
  go_wp2_with fail
  refine (eqBuffers_any _ _ _ _ _ _ _ _ _ _ _ _ _ _ _ bn5 bm5 bn3 bm3 _ (R5.out.intsA LA5.out) (R5.out.intsB LB5.out) (R3.out.intsA LA3.out) (R3.out.intsB LB3.out)).mono ?_
  rintro e w10 ⟨rfl, N10a⟩
  clear v26a v26b v26c v27a v27b v27c v28a v28b v28c v29a v29b v29c
  have s10 : w9.heap.size ≤ w10.heap.size := by { have := N10a.le; simpa using this }
  have Ba := Lib.hid (Ba.out.new N10a)
  have Bw := Lib.hid (Bw.out.new N10a)
  have Bx := Lib.hid (Bx.out.new N10a)
  have Bg := Lib.hid (Bg.out.new N10a)
  have R2 := Lib.hid (R2.out.new N10a)
  have R3 := Lib.hid (R3.out.new N10a)
  have R5 := Lib.hid (R5.out.new N10a)
  have R7 := Lib.hid (R7.out.new N10a)
  have N10 := Lib.hid (N9.out.trans N10a); clear N10a
  obtain ⟨_, v30a, v30b, v30c, _, _, _⟩ := Ba.out
  obtain ⟨_, v31a, v31b, v31c, _, _, _⟩ := Bw.out
  obtain ⟨_, v32a, v32b, v32c, _, _, _⟩ := Bx.out
  obtain ⟨_, v33a, v33b, v33c, _, _, _⟩ := Bg.out
  go_wp2_with fail
  refine (markBuffers_any _ _ _ _ _ _ _ _ _ _ _ bn5 bm5 LA5.out LB5.out _ R5.out).mono ?_
  rintro e w11 ⟨rfl, M11, C11⟩
  clear v30a v30b v30c v31a v31b v31c v32a v32b v32c v33a v33b v33c
  have s11 : w10.heap.size ≤ w11.heap.size := by have := C11.size; simpa using this
  have Ba := Lib.hid (Ba.out.chg C11 (by omega))
  have Bw := Lib.hid (Bw.out.chg C11 (by omega))
  have Bx := Lib.hid (Bx.out.chg C11 (by omega))
  have Bg := Lib.hid (Bg.out.chg C11 (by omega))
  have R2 := Lib.hid (R2.out.chg C11 (by omega))
  have R3 := Lib.hid (R3.out.chg C11 (by omega))
  have R7 := Lib.hid (R7.out.chg C11 (by omega))
  have N11 := Lib.hid (N10.out.chgs C11 (by omega)); clear C11
  have M11 := Lib.hid M11
  obtain ⟨_, v34a, v34b, v34c, _, _, _⟩ := Ba.out
  obtain ⟨_, v35a, v35b, v35c, _, _, _⟩ := Bw.out
  obtain ⟨_, v36a, v36b, v36c, _, _, _⟩ := Bx.out
  obtain ⟨_, v37a, v37b, v37c, _, _, _⟩ := Bg.out
  go_wp2_with fail
  refine (heldBuffers_any _ _ _ _ _ _ _ _ _ bn5 bm5 _ M11.out).mono ?_
  rintro e w12 ⟨rfl, N12a⟩
  clear v34a v34b v34c v35a v35b v35c v36a v36b v36c v37a v37b v37c
  have s12 : w11.heap.size ≤ w12.heap.size := by { have := N12a.le; simpa using this }
  have Ba := Lib.hid (Ba.out.new N12a)
  have Bw := Lib.hid (Bw.out.new N12a)
  have Bx := Lib.hid (Bx.out.new N12a)
  have Bg := Lib.hid (Bg.out.new N12a)
  have R2 := Lib.hid (R2.out.new N12a)
  have R3 := Lib.hid (R3.out.new N12a)
  have R7 := Lib.hid (R7.out.new N12a)
  have M11 := Lib.hid (M11.out.new N12a)
  have N12 := Lib.hid (N11.out.trans N12a); clear N12a
  obtain ⟨_, v38a, v38b, v38c, _, _, _⟩ := Ba.out
  obtain ⟨_, v39a, v39b, v39c, _, _, _⟩ := Bw.out
  obtain ⟨_, v40a, v40b, v40c, _, _, _⟩ := Bx.out
  obtain ⟨_, v41a, v41b, v41c, _, _, _⟩ := Bg.out
  go_wp2_with fail
  refine (toBuffers_any A n c B m d v xs ys hnb hmb _ (HX.out.new N12.out) (HY.out.new N12.out)).mono ?_
  rintro e w13 ⟨A13, n13, c13, BB13, m13, d13, rfl, la13, lb13, r13, N13a⟩
  clear v38a v38b v38c v39a v39b v39c v40a v40b v40c v41a v41b v41c
  have s13 : w12.heap.size ≤ w13.heap.size := by { have := N13a.le; simpa using this }
  have Ba := Lib.hid (Ba.out.new N13a)
  have Bw := Lib.hid (Bw.out.new N13a)
  have Bx := Lib.hid (Bx.out.new N13a)
  have Bg := Lib.hid (Bg.out.new N13a)
  have R2 := Lib.hid (R2.out.new N13a)
  have R3 := Lib.hid (R3.out.new N13a)
  have R7 := Lib.hid (R7.out.new N13a)
  have M11 := Lib.hid (M11.out.new N13a)
  have N13 := Lib.hid (N12.out.trans N13a); clear N13a
  obtain ⟨_, v42a, v42b, v42c, _, _, _⟩ := Ba.out
  obtain ⟨_, v43a, v43b, v43c, _, _, _⟩ := Bw.out
  obtain ⟨_, v44a, v44b, v44c, _, _, _⟩ := Bx.out
  obtain ⟨_, v45a, v45b, v45c, _, _, _⟩ := Bg.out
  have R13 := Lib.hid (r13.mono (show w12.heap.size ≤ _ by simp) (Nat.le_refl _) (Nat.le_refl _)); have LA13 := Lib.hid la13; have LB13 := Lib.hid lb13
  have bn13 : n13 ≤ 1048576 := by { have := LA13.out; have := LX.out; omega }
  have bm13 : m13 ≤ 1048576 := by { have := LB13.out; have := LY.out; omega }
  have in13 : (n13 : Int) ≤ 1048576 := by omega
  have im13 : (m13 : Int) ≤ 1048576 := by omega
  have jn13 : (0 : Int) ≤ (n13 : Int) := by omega
  have jm13 : (0 : Int) ≤ (m13 : Int) := by omega
  clear la13 lb13 r13
  go_wp2_with fail
  refine (HI.out _ _ _ _ _ _ _ (R13.out.intsA LA13.out) (R13.out.intsB LB13.out) bn13 bm13).mono ?_
  rintro e w14 ⟨A14, n14, c14, BB14, m14, d14, rfl, la14, lb14, r14, N14a⟩
  clear v42a v42b v42c v43a v43b v43c v44a v44b v44c v45a v45b v45c
  have s14 : w13.heap.size ≤ w14.heap.size := by { have := N14a.le; simpa using this }
  have Ba := Lib.hid (Ba.out.new N14a)
  have Bw := Lib.hid (Bw.out.new N14a)
  have Bx := Lib.hid (Bx.out.new N14a)
  have Bg := Lib.hid (Bg.out.new N14a)
  have R2 := Lib.hid (R2.out.new N14a)
  have R3 := Lib.hid (R3.out.new N14a)
  have R7 := Lib.hid (R7.out.new N14a)
  have M11 := Lib.hid (M11.out.new N14a)
  have R13 := Lib.hid (R13.out.new N14a)
  have N14 := Lib.hid (N13.out.trans N14a); clear N14a
  obtain ⟨_, v46a, v46b, v46c, _, _, _⟩ := Ba.out
  obtain ⟨_, v47a, v47b, v47c, _, _, _⟩ := Bw.out
  obtain ⟨_, v48a, v48b, v48c, _, _, _⟩ := Bx.out
  obtain ⟨_, v49a, v49b, v49c, _, _, _⟩ := Bg.out
  have R14 := Lib.hid (r14.mono (show w13.heap.size ≤ _ by simp) (Nat.le_refl _) (Nat.le_refl _)); have LA14 := Lib.hid la14; have LB14 := Lib.hid lb14
  have bn14 : n14 ≤ 1048576 := by { have := LA14.out; omega }
  have bm14 : m14 ≤ 1048576 := by { have := LB14.out; omega }
  have in14 : (n14 : Int) ≤ 1048576 := by omega
  have im14 : (m14 : Int) ≤ 1048576 := by omega
  have jn14 : (0 : Int) ≤ (n14 : Int) := by omega
  have jm14 : (0 : Int) ≤ (m14 : Int) := by omega
  clear la14 lb14 r14
  have AU : New w14 (w14.alloc (.cells #[.slice A14 n14 c14, .slice BB14 m14 d14, .int .i64 rv] 27)) := by (repeat (first | exact New.refl _ | assumption | refine New.alloc ?_ _ | refine New.drew ?_ | refine New.drewN ?_ _ | refine New.setCell ?_ (by first | omega | (simp; omega) | (simp; done)) _ | refine New.trans ?_ (by assumption)))
  have Ba := Lib.hid (Ba.out.new AU)
  have Bw := Lib.hid (Bw.out.new AU)
  have Bx := Lib.hid (Bx.out.new AU)
  have Bg := Lib.hid (Bg.out.new AU)
  have R2 := Lib.hid (R2.out.new AU)
  have R3 := Lib.hid (R3.out.new AU)
  have R7 := Lib.hid (R7.out.new AU)
  have M11 := Lib.hid (M11.out.new AU)
  have R13 := Lib.hid (R13.out.new AU)
  have R14 := Lib.hid (R14.out.new AU)
  have Bh := Lib.hid (B3.laid w14 (.slice A14 n14 c14) (.slice BB14 m14 d14) (.int .i64 rv) 27)
  have NBh := Lib.hid (N14.out.trans AU); clear AU
  obtain ⟨_, v50a, v50b, v50c, _, _, _⟩ := Ba.out
  obtain ⟨_, v51a, v51b, v51c, _, _, _⟩ := Bw.out
  obtain ⟨_, v52a, v52b, v52c, _, _, _⟩ := Bx.out
  obtain ⟨_, v53a, v53b, v53c, _, _, _⟩ := Bg.out
  obtain ⟨_, v54a, v54b, v54c, _, _, _⟩ := Bh.out
  go_wp2_with fail
  refine (eqBuffers_any _ _ _ _ _ _ _ _ _ _ _ _ _ _ _ bn14 bm14 bn3 bm3 _ (R14.out.intsA LA14.out) (R14.out.intsB LB14.out) (R3.out.intsA LA3.out) (R3.out.intsB LB3.out)).mono ?_
  rintro e w15 ⟨rfl, N15a⟩
  clear v46a v46b v46c v47a v47b v47c v48a v48b v48c v49a v49b v49c v50a v50b v50c v51a v51b v51c v52a v52b v52c v53a v53b v53c v54a v54b v54c
  have s15 : w14.heap.size + 1 ≤ w15.heap.size := by { have := N15a.le; simpa using this }
  have Ba := Lib.hid (Ba.out.new N15a)
  have Bw := Lib.hid (Bw.out.new N15a)
  have Bx := Lib.hid (Bx.out.new N15a)
  have Bg := Lib.hid (Bg.out.new N15a)
  have Bh := Lib.hid (Bh.out.new N15a)
  have R2 := Lib.hid (R2.out.new N15a)
  have R3 := Lib.hid (R3.out.new N15a)
  have R7 := Lib.hid (R7.out.new N15a)
  have M11 := Lib.hid (M11.out.new N15a)
  have R13 := Lib.hid (R13.out.new N15a)
  have R14 := Lib.hid (R14.out.new N15a)
  have N15 := Lib.hid (NBh.out.trans N15a); clear N15a
  obtain ⟨_, v55a, v55b, v55c, _, _, _⟩ := Ba.out
  obtain ⟨_, v56a, v56b, v56c, _, _, _⟩ := Bw.out
  obtain ⟨_, v57a, v57b, v57c, _, _, _⟩ := Bx.out
  obtain ⟨_, v58a, v58b, v58c, _, _, _⟩ := Bg.out
  obtain ⟨_, v59a, v59b, v59c, _, _, _⟩ := Bh.out
  go_wp2_with fail
  refine (heldBuffers_any _ _ _ _ _ _ _ _ _ bn5 bm5 _ M11.out).mono ?_
  rintro e w16 ⟨rfl, N16a⟩
  clear v55a v55b v55c v56a v56b v56c v57a v57b v57c v58a v58b v58c v59a v59b v59c
  have s16 : w15.heap.size ≤ w16.heap.size := by { have := N16a.le; simpa using this }
  have Ba := Lib.hid (Ba.out.new N16a)
  have Bw := Lib.hid (Bw.out.new N16a)
  have Bx := Lib.hid (Bx.out.new N16a)
  have Bg := Lib.hid (Bg.out.new N16a)
  have Bh := Lib.hid (Bh.out.new N16a)
  have R2 := Lib.hid (R2.out.new N16a)
  have R3 := Lib.hid (R3.out.new N16a)
  have R7 := Lib.hid (R7.out.new N16a)
  have M11 := Lib.hid (M11.out.new N16a)
  have R13 := Lib.hid (R13.out.new N16a)
  have R14 := Lib.hid (R14.out.new N16a)
  have N16 := Lib.hid (N15.out.trans N16a); clear N16a
  obtain ⟨_, v60a, v60b, v60c, _, _, _⟩ := Ba.out
  obtain ⟨_, v61a, v61b, v61c, _, _, _⟩ := Bw.out
  obtain ⟨_, v62a, v62b, v62c, _, _, _⟩ := Bx.out
  obtain ⟨_, v63a, v63b, v63c, _, _, _⟩ := Bg.out
  obtain ⟨_, v64a, v64b, v64c, _, _, _⟩ := Bh.out
  go_wp2
  go_ret
  exact ⟨rfl, N16.out⟩
end Go.Proofs.Ytopnegbaieflpaa
