/- The law FnWriteCellOrder, walked: cells are written one by one: both orders make the same. Condition: the code can be read. -/
import Derived.Test.YtopnegbaieflpaaBufP
import Derived.Test.YtopnegbaieflpaaBufQ
import Derived.Test.YtopnegbaieflpaaDrawC
namespace Go.Proofs.Ytopnegbaieflpaa
open Go.RowKit

set_option maxRecDepth 100000 in
set_option maxHeartbeats 4000000 in
theorem lawWriteCellOrder (A : Option Addr) (n c : Nat) (hn : n ≤ maxLen) (hnc : n ≤ c) (w : World) (hb : Bytes w A n) :
    Calls Try.prog 11 #[.slice A n c] w fun e w' => e = .returned (.bool true) ∧ New w w' := by
  have HB := Lib.hid hb; have HM := Lib.hid hn
  clear hb
  unfold maxLen at hn
  by_cases hbig : 1048576 < n
  · go_enter Try.func11, Try.ntmps11
    go_wp2
    go_ret
    exact ⟨rfl, by (repeat (first | exact New.refl _ | assumption | refine New.alloc ?_ _ | refine New.drew ?_ | refine New.drewN ?_ _ | refine New.setCell ?_ (by first | omega | (simp; omega) | (simp; done)) _ | refine New.trans ?_ (by assumption)))⟩
  have hm : (n : Int) ≤ 1048576 := by omega
  have hm0 : (0 : Int) ≤ (n : Int) := by omega
  go_enter Try.func11, Try.ntmps11
  go_wp2_with fail
  refine (DrawWriteCell_any A n c HM.out hnc _ HB.out).mono ?_
  rintro e w1 ⟨B1, m1, d1, C1, k1, e1, v, xs, ys, x, z, rfl, I1, J1, b1, c1, N1a⟩
  have s1 : w.heap.size ≤ w1.heap.size := by { have := N1a.le; simpa using this }
  have N1 := Lib.hid ((New.refl w).trans N1a); clear N1a
  have LX := Lib.hid I1.len; have LY := Lib.hid J1.len; replace I1 := Lib.hid I1; replace J1 := Lib.hid J1
  have BX : Hid (xs.length ≤ 100) := Lib.hid (by have := LX.out; omega)
  have BY : Hid (ys.length ≤ 100) := Lib.hid (by have := LY.out; omega)
  have mi : (m1 : Int) ≤ 100 := by omega
  have mj : (0 : Int) ≤ (m1 : Int) := by omega
  have ki : (k1 : Int) ≤ 100 := by omega
  have kj : (0 : Int) ≤ (k1 : Int) := by omega
  have AU : New w1 (w1.alloc (.cells #[.slice B1 m1 d1, .slice C1 k1 e1, .int .i64 v] 27)) := by (repeat (first | exact New.refl _ | assumption | refine New.alloc ?_ _ | refine New.drew ?_ | refine New.drewN ?_ _ | refine New.setCell ?_ (by first | omega | (simp; omega) | (simp; done)) _ | refine New.trans ?_ (by assumption)))
  have I1 := Lib.hid (I1.out.new AU)
  have J1 := Lib.hid (J1.out.new AU)
  have Bb := Lib.hid (B3.laid w1 (.slice B1 m1 d1) (.slice C1 k1 e1) (.int .i64 v) 27)
  have NBb := Lib.hid (N1.out.trans AU); clear AU
  obtain ⟨_, v0a, v0b, v0c, _, _, _⟩ := Bb.out
  cases hok : wrOk v xs ys x z
  · skip
    go_wp2_with fail
    refine (WriteCell_ansB B1 m1 d1 C1 k1 e1 v xs ys x z (by omega) (by omega) _ I1.out J1.out).mono ?_
    rw [hok]
    rw [show okV false _ = 0 from rfl]
    rintro e w2 ⟨A2, n2, c2, BB2, m2, d2, rfl, la2, lb2, r2, N2a⟩
    clear v0a v0b v0c
    have s2 : w1.heap.size + 1 ≤ w2.heap.size := by { have := N2a.le; simpa using this }
    have Bb := Lib.hid (Bb.out.new N2a)
    have I1 := Lib.hid (I1.out.new N2a)
    have J1 := Lib.hid (J1.out.new N2a)
    have N2 := Lib.hid (NBb.out.trans N2a); clear N2a
    obtain ⟨_, v1a, v1b, v1c, _, _, _⟩ := Bb.out
    replace la2 : (([] : List Int)).length = n2 := la2
    replace lb2 : (([] : List Int)).length = m2 := lb2
    replace r2 : Res2 _ _ w2 A2 (([] : List Int)) BB2 (([] : List Int)) := r2
    have R2 := Lib.hid r2; have LA2 := Lib.hid la2; have LB2 := Lib.hid lb2
    have bn2 : n2 ≤ 1048576 := by { have h1 := LA2.out; have h2 := LB2.out; simp at h1 h2; omega }
    have bm2 : m2 ≤ 1048576 := by { have h1 := LA2.out; have h2 := LB2.out; simp at h1 h2; omega }
    have in2 : (n2 : Int) ≤ 1048576 := by omega
    have im2 : (m2 : Int) ≤ 1048576 := by omega
    have jn2 : (0 : Int) ≤ (n2 : Int) := by omega
    have jm2 : (0 : Int) ≤ (m2 : Int) := by omega
    clear la2 lb2 r2
    have AU : New w2 (w2.alloc (.cells #[.slice A2 n2 c2, .slice BB2 m2 d2, .int .i64 0] 27)) := by (repeat (first | exact New.refl _ | assumption | refine New.alloc ?_ _ | refine New.drew ?_ | refine New.drewN ?_ _ | refine New.setCell ?_ (by first | omega | (simp; omega) | (simp; done)) _ | refine New.trans ?_ (by assumption)))
    have Bb := Lib.hid (Bb.out.new AU)
    have I1 := Lib.hid (I1.out.new AU)
    have J1 := Lib.hid (J1.out.new AU)
    have R2 := Lib.hid (R2.out.new AU)
    have Bc := Lib.hid (B3.laid w2 (.slice A2 n2 c2) (.slice BB2 m2 d2) (.int .i64 0) 27)
    have NBc := Lib.hid (N2.out.trans AU); clear AU
    obtain ⟨_, v2a, v2b, v2c, _, _, _⟩ := Bb.out
    obtain ⟨_, v3a, v3b, v3c, _, _, _⟩ := Bc.out
    go_wp2_with fail
    refine (SWriteCell_ansB B1 m1 d1 C1 k1 e1 v xs ys x z (by omega) (by omega) _ I1.out J1.out).mono ?_
    rw [hok]
    rw [show okV false _ = 0 from rfl]
    rintro e w3 ⟨A3, n3, c3, BB3, m3, d3, rfl, la3, lb3, r3, N3a⟩
    clear v1a v1b v1c v2a v2b v2c v3a v3b v3c
    have s3 : w2.heap.size + 1 ≤ w3.heap.size := by { have := N3a.le; simpa using this }
    have Bb := Lib.hid (Bb.out.new N3a)
    have Bc := Lib.hid (Bc.out.new N3a)
    have I1 := Lib.hid (I1.out.new N3a)
    have J1 := Lib.hid (J1.out.new N3a)
    have R2 := Lib.hid (R2.out.new N3a)
    have N3 := Lib.hid (NBc.out.trans N3a); clear N3a
    obtain ⟨_, v4a, v4b, v4c, _, _, _⟩ := Bb.out
    obtain ⟨_, v5a, v5b, v5c, _, _, _⟩ := Bc.out
    replace la3 : (([] : List Int)).length = n3 := la3
    replace lb3 : (([] : List Int)).length = m3 := lb3
    replace r3 : Res2 _ _ w3 A3 (([] : List Int)) BB3 (([] : List Int)) := r3
    have R3 := Lib.hid r3; have LA3 := Lib.hid la3; have LB3 := Lib.hid lb3
    have bn3 : n3 ≤ 1048576 := by { have h1 := LA3.out; have h2 := LB3.out; simp at h1 h2; omega }
    have bm3 : m3 ≤ 1048576 := by { have h1 := LA3.out; have h2 := LB3.out; simp at h1 h2; omega }
    have in3 : (n3 : Int) ≤ 1048576 := by omega
    have im3 : (m3 : Int) ≤ 1048576 := by omega
    have jn3 : (0 : Int) ≤ (n3 : Int) := by omega
    have jm3 : (0 : Int) ≤ (m3 : Int) := by omega
    clear la3 lb3 r3
    have AU : New w3 (w3.alloc (.cells #[.slice A3 n3 c3, .slice BB3 m3 d3, .int .i64 0] 27)) := by (repeat (first | exact New.refl _ | assumption | refine New.alloc ?_ _ | refine New.drew ?_ | refine New.drewN ?_ _ | refine New.setCell ?_ (by first | omega | (simp; omega) | (simp; done)) _ | refine New.trans ?_ (by assumption)))
    have Bb := Lib.hid (Bb.out.new AU)
    have Bc := Lib.hid (Bc.out.new AU)
    have I1 := Lib.hid (I1.out.new AU)
    have J1 := Lib.hid (J1.out.new AU)
    have R2 := Lib.hid (R2.out.new AU)
    have R3 := Lib.hid (R3.out.new AU)
    have Bw := Lib.hid (B3.laid w3 (.slice A3 n3 c3) (.slice BB3 m3 d3) (.int .i64 0) 27)
    have NBw := Lib.hid (N3.out.trans AU); clear AU
    obtain ⟨_, v6a, v6b, v6c, _, _, _⟩ := Bb.out
    obtain ⟨_, v7a, v7b, v7c, _, _, _⟩ := Bc.out
    obtain ⟨_, v8a, v8b, v8c, _, _, _⟩ := Bw.out
    go_wp2_with fail
    refine (equalBuffers_any _ _ _ _ _ _ _ _ _ _ _ _ _ _ _ bn2 bm2 bn3 bm3 _ (R2.out.intsA LA2.out) (R2.out.intsB LB2.out) (R3.out.intsA LA3.out) (R3.out.intsB LB3.out)).mono ?_
    rintro e w4 ⟨rfl, N4a⟩
    clear v4a v4b v4c v5a v5b v5c v6a v6b v6c v7a v7b v7c v8a v8b v8c
    have s4 : w3.heap.size + 1 ≤ w4.heap.size := by { have := N4a.le; simpa using this }
    have Bb := Lib.hid (Bb.out.new N4a)
    have Bc := Lib.hid (Bc.out.new N4a)
    have Bw := Lib.hid (Bw.out.new N4a)
    have I1 := Lib.hid (I1.out.new N4a)
    have J1 := Lib.hid (J1.out.new N4a)
    have R2 := Lib.hid (R2.out.new N4a)
    have R3 := Lib.hid (R3.out.new N4a)
    have N4 := Lib.hid (NBw.out.trans N4a); clear N4a
    obtain ⟨_, v9a, v9b, v9c, _, _, _⟩ := Bb.out
    obtain ⟨_, v10a, v10b, v10c, _, _, _⟩ := Bc.out
    obtain ⟨_, v11a, v11b, v11c, _, _, _⟩ := Bw.out
    go_wp2_with fail
    refine (equalBuffers_any _ _ _ _ _ _ _ _ _ _ _ _ _ _ _ bn2 bm2 bn3 bm3 _ (R2.out.intsA LA2.out) (R2.out.intsB LB2.out) (R3.out.intsA LA3.out) (R3.out.intsB LB3.out)).mono ?_
    rintro e w5 ⟨rfl, N5a⟩
    clear v9a v9b v9c v10a v10b v10c v11a v11b v11c
    have s5 : w4.heap.size ≤ w5.heap.size := by { have := N5a.le; simpa using this }
    have Bb := Lib.hid (Bb.out.new N5a)
    have Bc := Lib.hid (Bc.out.new N5a)
    have Bw := Lib.hid (Bw.out.new N5a)
    have I1 := Lib.hid (I1.out.new N5a)
    have J1 := Lib.hid (J1.out.new N5a)
    have R2 := Lib.hid (R2.out.new N5a)
    have R3 := Lib.hid (R3.out.new N5a)
    have N5 := Lib.hid (N4.out.trans N5a); clear N5a
    obtain ⟨_, v12a, v12b, v12c, _, _, _⟩ := Bb.out
    obtain ⟨_, v13a, v13b, v13c, _, _, _⟩ := Bc.out
    obtain ⟨_, v14a, v14b, v14c, _, _, _⟩ := Bw.out
    go_wp2
    go_ret
    exact ⟨rfl, N5.out⟩
  · obtain ⟨OV, NZ, i, hi, rfl⟩ := wrOk_yes hok
    have OV := Lib.hid OV; have NZ := Lib.hid NZ; have HOK := Lib.hid hok
    have OC : Hid (okB v xs (ys.set i z) = true) := Lib.hid (okB_set OV.out NZ.out)
    have i0 : (0 : Int) ≤ (i : Int) := by omega
    have i1 : (i : Int) < (m1 : Int) := by have := LX.out; omega
    have him : i < m1 := by omega
    have E12 : Hid (xs.length = ys.length) := Lib.hid (okB_len OV.out).1
    have eT : Hid (ys.set (i : Int).toNat z = ys.set i z) := Lib.hid (by rw [Int.toNat_natCast])
    clear hok
    go_wp2_with fail
    refine (WriteCell_ansB B1 m1 d1 C1 k1 e1 v xs ys (i : Int) z (by omega) (by omega) _ I1.out J1.out).mono ?_
    rw [HOK.out, eT.out]
    rw [show okV true v = v from rfl]
    rintro e w2 ⟨A2, n2, c2, BB2, m2, d2, rfl, la2, lb2, r2, N2a⟩
    clear v0a v0b v0c
    have s2 : w1.heap.size + 1 ≤ w2.heap.size := by { have := N2a.le; simpa using this }
    have Bb := Lib.hid (Bb.out.new N2a)
    have I1 := Lib.hid (I1.out.new N2a)
    have J1 := Lib.hid (J1.out.new N2a)
    have N2 := Lib.hid (NBb.out.trans N2a); clear N2a
    obtain ⟨_, v1a, v1b, v1c, _, _, _⟩ := Bb.out
    replace la2 : (xs).length = n2 := la2
    replace lb2 : ((ys.set i z)).length = m2 := lb2
    replace r2 : Res2 _ _ w2 A2 (xs) BB2 ((ys.set i z)) := r2
    have R2 := Lib.hid r2; have LA2 := Lib.hid la2; have LB2 := Lib.hid lb2
    have bn2 : n2 ≤ 1048576 := by { have h1 := LA2.out; have h2 := LB2.out; have h3 := BX.out; have h4 := BY.out; rw [List.length_set] at h2; omega }
    have bm2 : m2 ≤ 1048576 := by { have h1 := LA2.out; have h2 := LB2.out; have h3 := BX.out; have h4 := BY.out; rw [List.length_set] at h2; omega }
    have in2 : (n2 : Int) ≤ 1048576 := by omega
    have im2 : (m2 : Int) ≤ 1048576 := by omega
    have jn2 : (0 : Int) ≤ (n2 : Int) := by omega
    have jm2 : (0 : Int) ≤ (m2 : Int) := by omega
    clear la2 lb2 r2
    have AU : New w2 (w2.alloc (.cells #[.slice A2 n2 c2, .slice BB2 m2 d2, .int .i64 v] 27)) := by (repeat (first | exact New.refl _ | assumption | refine New.alloc ?_ _ | refine New.drew ?_ | refine New.drewN ?_ _ | refine New.setCell ?_ (by first | omega | (simp; omega) | (simp; done)) _ | refine New.trans ?_ (by assumption)))
    have Bb := Lib.hid (Bb.out.new AU)
    have I1 := Lib.hid (I1.out.new AU)
    have J1 := Lib.hid (J1.out.new AU)
    have R2 := Lib.hid (R2.out.new AU)
    have Bc := Lib.hid (B3.laid w2 (.slice A2 n2 c2) (.slice BB2 m2 d2) (.int .i64 v) 27)
    have NBc := Lib.hid (N2.out.trans AU); clear AU
    obtain ⟨_, v2a, v2b, v2c, _, _, _⟩ := Bb.out
    obtain ⟨_, v3a, v3b, v3c, _, _, _⟩ := Bc.out
    go_wp2_with fail
    refine (SWriteCell_ansB B1 m1 d1 C1 k1 e1 v xs ys (i : Int) z (by omega) (by omega) _ I1.out J1.out).mono ?_
    rw [HOK.out, eT.out]
    rw [show okV true v = v from rfl]
    rintro e w3 ⟨A3, n3, c3, BB3, m3, d3, rfl, la3, lb3, r3, N3a⟩
    clear v1a v1b v1c v2a v2b v2c v3a v3b v3c
    have s3 : w2.heap.size + 1 ≤ w3.heap.size := by { have := N3a.le; simpa using this }
    have Bb := Lib.hid (Bb.out.new N3a)
    have Bc := Lib.hid (Bc.out.new N3a)
    have I1 := Lib.hid (I1.out.new N3a)
    have J1 := Lib.hid (J1.out.new N3a)
    have R2 := Lib.hid (R2.out.new N3a)
    have N3 := Lib.hid (NBc.out.trans N3a); clear N3a
    obtain ⟨_, v4a, v4b, v4c, _, _, _⟩ := Bb.out
    obtain ⟨_, v5a, v5b, v5c, _, _, _⟩ := Bc.out
    replace la3 : (xs).length = n3 := la3
    replace lb3 : ((ys.set i z)).length = m3 := lb3
    replace r3 : Res2 _ _ w3 A3 (xs) BB3 ((ys.set i z)) := r3
    have R3 := Lib.hid r3; have LA3 := Lib.hid la3; have LB3 := Lib.hid lb3
    have bn3 : n3 ≤ 1048576 := by { have h1 := LA3.out; have h2 := LB3.out; have h3 := BX.out; have h4 := BY.out; rw [List.length_set] at h2; omega }
    have bm3 : m3 ≤ 1048576 := by { have h1 := LA3.out; have h2 := LB3.out; have h3 := BX.out; have h4 := BY.out; rw [List.length_set] at h2; omega }
    have in3 : (n3 : Int) ≤ 1048576 := by omega
    have im3 : (m3 : Int) ≤ 1048576 := by omega
    have jn3 : (0 : Int) ≤ (n3 : Int) := by omega
    have jm3 : (0 : Int) ≤ (m3 : Int) := by omega
    clear la3 lb3 r3
    have AU : New w3 (w3.alloc (.cells #[.slice A3 n3 c3, .slice BB3 m3 d3, .int .i64 v] 27)) := by (repeat (first | exact New.refl _ | assumption | refine New.alloc ?_ _ | refine New.drew ?_ | refine New.drewN ?_ _ | refine New.setCell ?_ (by first | omega | (simp; omega) | (simp; done)) _ | refine New.trans ?_ (by assumption)))
    have Bb := Lib.hid (Bb.out.new AU)
    have Bc := Lib.hid (Bc.out.new AU)
    have I1 := Lib.hid (I1.out.new AU)
    have J1 := Lib.hid (J1.out.new AU)
    have R2 := Lib.hid (R2.out.new AU)
    have R3 := Lib.hid (R3.out.new AU)
    have Bw := Lib.hid (B3.laid w3 (.slice A3 n3 c3) (.slice BB3 m3 d3) (.int .i64 v) 27)
    have NBw := Lib.hid (N3.out.trans AU); clear AU
    obtain ⟨_, v6a, v6b, v6c, _, _, _⟩ := Bb.out
    obtain ⟨_, v7a, v7b, v7c, _, _, _⟩ := Bc.out
    obtain ⟨_, v8a, v8b, v8c, _, _, _⟩ := Bw.out
    go_wp2_with fail
    refine (equalBuffers_any _ _ _ _ _ _ _ _ _ _ _ _ _ _ _ bn2 bm2 bn3 bm3 _ (R2.out.intsA LA2.out) (R2.out.intsB LB2.out) (R3.out.intsA LA3.out) (R3.out.intsB LB3.out)).mono ?_
    rintro e w4 ⟨rfl, N4a⟩
    clear v4a v4b v4c v5a v5b v5c v6a v6b v6c v7a v7b v7c v8a v8b v8c
    have s4 : w3.heap.size + 1 ≤ w4.heap.size := by { have := N4a.le; simpa using this }
    have Bb := Lib.hid (Bb.out.new N4a)
    have Bc := Lib.hid (Bc.out.new N4a)
    have Bw := Lib.hid (Bw.out.new N4a)
    have I1 := Lib.hid (I1.out.new N4a)
    have J1 := Lib.hid (J1.out.new N4a)
    have R2 := Lib.hid (R2.out.new N4a)
    have R3 := Lib.hid (R3.out.new N4a)
    have N4 := Lib.hid (NBw.out.trans N4a); clear N4a
    obtain ⟨_, v9a, v9b, v9c, _, _, _⟩ := Bb.out
    obtain ⟨_, v10a, v10b, v10c, _, _, _⟩ := Bc.out
    obtain ⟨_, v11a, v11b, v11c, _, _, _⟩ := Bw.out
    by_cases h2 : k1 < 2
    · have h2i : (k1 : Int) < 2 := by omega
      go_wp2_with fail
      refine (equalBuffers_any _ _ _ _ _ _ _ _ _ _ _ _ _ _ _ bn2 bm2 bn3 bm3 _ (R2.out.intsA LA2.out) (R2.out.intsB LB2.out) (R3.out.intsA LA3.out) (R3.out.intsB LB3.out)).mono ?_
      rintro e w5 ⟨rfl, N5a⟩
      clear v9a v9b v9c v10a v10b v10c v11a v11b v11c
      have s5 : w4.heap.size ≤ w5.heap.size := by { have := N5a.le; simpa using this }
      have Bb := Lib.hid (Bb.out.new N5a)
      have Bc := Lib.hid (Bc.out.new N5a)
      have Bw := Lib.hid (Bw.out.new N5a)
      have I1 := Lib.hid (I1.out.new N5a)
      have J1 := Lib.hid (J1.out.new N5a)
      have R2 := Lib.hid (R2.out.new N5a)
      have R3 := Lib.hid (R3.out.new N5a)
      have N5 := Lib.hid (N4.out.trans N5a); clear N5a
      obtain ⟨_, v12a, v12b, v12c, _, _, _⟩ := Bb.out
      obtain ⟨_, v13a, v13b, v13c, _, _, _⟩ := Bc.out
      obtain ⟨_, v14a, v14b, v14c, _, _, _⟩ := Bw.out
      go_wp2
      go_ret
      exact ⟨rfl, N5.out⟩
    · have h2i : (2 : Int) ≤ (k1 : Int) := by omega
      have e12 := E12.out; have ex := LX.out; have ey := LY.out
      obtain ⟨o, ho1, ho2, ho3⟩ := next_ne (i := i) (k := k1) (by omega) (by omega)
      have o0 : (0 : Int) ≤ (o : Int) := by omega
      have N77 : Hid (numB 77 = true) := Lib.hid (by decide)
      have W1 : Hid (wrOk v xs (ys.set i z) (o : Int) 77 = true) := Lib.hid (wrOk_mk OC.out (by omega) N77.out)
      have W2 : Hid (wrOk v xs ys (o : Int) 77 = true) := Lib.hid (wrOk_mk OV.out (by omega) N77.out)
      have W3 : Hid (wrOk v xs (ys.set o 77) (i : Int) z = true) := Lib.hid (wrOk_mk (okB_set OV.out N77.out) hi NZ.out)
      have eC : Hid ((ys.set o 77).set i z = (ys.set i z).set o 77) := Lib.hid (List.set_comm _ _ (by omega))
      have eO : Hid ((o : Int).toNat = o) := Lib.hid (Int.toNat_natCast o)
      have eI : Hid ((i : Int).toNat = i) := Lib.hid (Int.toNat_natCast i)
      have E12 := Lib.hid e12
      clear e12 ex ey ho1 ho2 h2
      go_wp2_with fail
      refine (WriteCell_ansB A2 n2 c2 BB2 m2 d2 v (xs) ((ys.set i z)) (o : Int) 77 bn2 bm2 _ (R2.out.intsA LA2.out) (R2.out.intsB LB2.out)).mono ?_
      rw [W1.out, eO.out]
      rw [show okV true v = v from rfl]
      rintro e w5 ⟨A5, n5, c5, BB5, m5, d5, rfl, la5, lb5, r5, N5a⟩
      clear v9a v9b v9c v10a v10b v10c v11a v11b v11c
      have s5 : w4.heap.size ≤ w5.heap.size := by { have := N5a.le; simpa using this }
      have Bb := Lib.hid (Bb.out.new N5a)
      have Bc := Lib.hid (Bc.out.new N5a)
      have Bw := Lib.hid (Bw.out.new N5a)
      have I1 := Lib.hid (I1.out.new N5a)
      have J1 := Lib.hid (J1.out.new N5a)
      have R2 := Lib.hid (R2.out.new N5a)
      have R3 := Lib.hid (R3.out.new N5a)
      have N5 := Lib.hid (N4.out.trans N5a); clear N5a
      obtain ⟨_, v12a, v12b, v12c, _, _, _⟩ := Bb.out
      obtain ⟨_, v13a, v13b, v13c, _, _, _⟩ := Bc.out
      obtain ⟨_, v14a, v14b, v14c, _, _, _⟩ := Bw.out
      replace la5 : (xs).length = n5 := la5
      replace lb5 : (((ys.set i z).set o 77)).length = m5 := lb5
      replace r5 : Res2 _ _ w5 A5 (xs) BB5 (((ys.set i z).set o 77)) := r5
      have R5 := Lib.hid r5; have LA5 := Lib.hid la5; have LB5 := Lib.hid lb5
      have bn5 : n5 ≤ 1048576 := by { have h1 := LA5.out; have h2 := LB5.out; have h3 := BX.out; have h4 := BY.out; simp only [List.length_set] at h2; omega }
      have bm5 : m5 ≤ 1048576 := by { have h1 := LA5.out; have h2 := LB5.out; have h3 := BX.out; have h4 := BY.out; simp only [List.length_set] at h2; omega }
      have in5 : (n5 : Int) ≤ 1048576 := by omega
      have im5 : (m5 : Int) ≤ 1048576 := by omega
      have jn5 : (0 : Int) ≤ (n5 : Int) := by omega
      have jm5 : (0 : Int) ≤ (m5 : Int) := by omega
      clear la5 lb5 r5
      have AU : New w5 (w5.alloc (.cells #[.slice A5 n5 c5, .slice BB5 m5 d5, .int .i64 v] 27)) := by (repeat (first | exact New.refl _ | assumption | refine New.alloc ?_ _ | refine New.drew ?_ | refine New.drewN ?_ _ | refine New.setCell ?_ (by first | omega | (simp; omega) | (simp; done)) _ | refine New.trans ?_ (by assumption)))
      have Bb := Lib.hid (Bb.out.new AU)
      have Bc := Lib.hid (Bc.out.new AU)
      have Bw := Lib.hid (Bw.out.new AU)
      have I1 := Lib.hid (I1.out.new AU)
      have J1 := Lib.hid (J1.out.new AU)
      have R2 := Lib.hid (R2.out.new AU)
      have R3 := Lib.hid (R3.out.new AU)
      have R5 := Lib.hid (R5.out.new AU)
      have Bp := Lib.hid (B3.laid w5 (.slice A5 n5 c5) (.slice BB5 m5 d5) (.int .i64 v) 27)
      have NBp := Lib.hid (N5.out.trans AU); clear AU
      obtain ⟨_, v15a, v15b, v15c, _, _, _⟩ := Bb.out
      obtain ⟨_, v16a, v16b, v16c, _, _, _⟩ := Bc.out
      obtain ⟨_, v17a, v17b, v17c, _, _, _⟩ := Bw.out
      obtain ⟨_, v18a, v18b, v18c, _, _, _⟩ := Bp.out
      go_wp2_with fail
      refine (WriteCell_ansB B1 m1 d1 C1 k1 e1 v xs ys (o : Int) 77 (by omega) (by omega) _ I1.out J1.out).mono ?_
      rw [W2.out, eO.out]
      rw [show okV true v = v from rfl]
      rintro e w6 ⟨A6, n6, c6, BB6, m6, d6, rfl, la6, lb6, r6, N6a⟩
      clear v12a v12b v12c v13a v13b v13c v14a v14b v14c v15a v15b v15c v16a v16b v16c v17a v17b v17c v18a v18b v18c
      have s6 : w5.heap.size + 1 ≤ w6.heap.size := by { have := N6a.le; simpa using this }
      have Bb := Lib.hid (Bb.out.new N6a)
      have Bc := Lib.hid (Bc.out.new N6a)
      have Bw := Lib.hid (Bw.out.new N6a)
      have Bp := Lib.hid (Bp.out.new N6a)
      have I1 := Lib.hid (I1.out.new N6a)
      have J1 := Lib.hid (J1.out.new N6a)
      have R2 := Lib.hid (R2.out.new N6a)
      have R3 := Lib.hid (R3.out.new N6a)
      have R5 := Lib.hid (R5.out.new N6a)
      have N6 := Lib.hid (NBp.out.trans N6a); clear N6a
      obtain ⟨_, v19a, v19b, v19c, _, _, _⟩ := Bb.out
      obtain ⟨_, v20a, v20b, v20c, _, _, _⟩ := Bc.out
      obtain ⟨_, v21a, v21b, v21c, _, _, _⟩ := Bw.out
      obtain ⟨_, v22a, v22b, v22c, _, _, _⟩ := Bp.out
      replace la6 : (xs).length = n6 := la6
      replace lb6 : ((ys.set o 77)).length = m6 := lb6
      replace r6 : Res2 _ _ w6 A6 (xs) BB6 ((ys.set o 77)) := r6
      have R6 := Lib.hid r6; have LA6 := Lib.hid la6; have LB6 := Lib.hid lb6
      have bn6 : n6 ≤ 1048576 := by { have h1 := LA6.out; have h2 := LB6.out; have h3 := BX.out; have h4 := BY.out; simp only [List.length_set] at h2; omega }
      have bm6 : m6 ≤ 1048576 := by { have h1 := LA6.out; have h2 := LB6.out; have h3 := BX.out; have h4 := BY.out; simp only [List.length_set] at h2; omega }
      have in6 : (n6 : Int) ≤ 1048576 := by omega
      have im6 : (m6 : Int) ≤ 1048576 := by omega
      have jn6 : (0 : Int) ≤ (n6 : Int) := by omega
      have jm6 : (0 : Int) ≤ (m6 : Int) := by omega
      clear la6 lb6 r6
      have AU : New w6 (w6.alloc (.cells #[.slice A6 n6 c6, .slice BB6 m6 d6, .int .i64 v] 27)) := by (repeat (first | exact New.refl _ | assumption | refine New.alloc ?_ _ | refine New.drew ?_ | refine New.drewN ?_ _ | refine New.setCell ?_ (by first | omega | (simp; omega) | (simp; done)) _ | refine New.trans ?_ (by assumption)))
      have Bb := Lib.hid (Bb.out.new AU)
      have Bc := Lib.hid (Bc.out.new AU)
      have Bw := Lib.hid (Bw.out.new AU)
      have Bp := Lib.hid (Bp.out.new AU)
      have I1 := Lib.hid (I1.out.new AU)
      have J1 := Lib.hid (J1.out.new AU)
      have R2 := Lib.hid (R2.out.new AU)
      have R3 := Lib.hid (R3.out.new AU)
      have R5 := Lib.hid (R5.out.new AU)
      have R6 := Lib.hid (R6.out.new AU)
      have Bq := Lib.hid (B3.laid w6 (.slice A6 n6 c6) (.slice BB6 m6 d6) (.int .i64 v) 27)
      have NBq := Lib.hid (N6.out.trans AU); clear AU
      obtain ⟨_, v23a, v23b, v23c, _, _, _⟩ := Bb.out
      obtain ⟨_, v24a, v24b, v24c, _, _, _⟩ := Bc.out
      obtain ⟨_, v25a, v25b, v25c, _, _, _⟩ := Bw.out
      obtain ⟨_, v26a, v26b, v26c, _, _, _⟩ := Bp.out
      obtain ⟨_, v27a, v27b, v27c, _, _, _⟩ := Bq.out
      go_wp2_with fail
      refine (WriteCell_ansB A6 n6 c6 BB6 m6 d6 v (xs) ((ys.set o 77)) (i : Int) z bn6 bm6 _ (R6.out.intsA LA6.out) (R6.out.intsB LB6.out)).mono ?_
      rw [W3.out, eI.out, eC.out]
      rw [show okV true v = v from rfl]
      rintro e w7 ⟨A7, n7, c7, BB7, m7, d7, rfl, la7, lb7, r7, N7a⟩
      clear v19a v19b v19c v20a v20b v20c v21a v21b v21c v22a v22b v22c v23a v23b v23c v24a v24b v24c v25a v25b v25c v26a v26b v26c v27a v27b v27c
      have s7 : w6.heap.size + 1 ≤ w7.heap.size := by { have := N7a.le; simpa using this }
      have Bb := Lib.hid (Bb.out.new N7a)
      have Bc := Lib.hid (Bc.out.new N7a)
      have Bw := Lib.hid (Bw.out.new N7a)
      have Bp := Lib.hid (Bp.out.new N7a)
      have Bq := Lib.hid (Bq.out.new N7a)
      have I1 := Lib.hid (I1.out.new N7a)
      have J1 := Lib.hid (J1.out.new N7a)
      have R2 := Lib.hid (R2.out.new N7a)
      have R3 := Lib.hid (R3.out.new N7a)
      have R5 := Lib.hid (R5.out.new N7a)
      have R6 := Lib.hid (R6.out.new N7a)
      have N7 := Lib.hid (NBq.out.trans N7a); clear N7a
      obtain ⟨_, v28a, v28b, v28c, _, _, _⟩ := Bb.out
      obtain ⟨_, v29a, v29b, v29c, _, _, _⟩ := Bc.out
      obtain ⟨_, v30a, v30b, v30c, _, _, _⟩ := Bw.out
      obtain ⟨_, v31a, v31b, v31c, _, _, _⟩ := Bp.out
      obtain ⟨_, v32a, v32b, v32c, _, _, _⟩ := Bq.out
      replace la7 : (xs).length = n7 := la7
      replace lb7 : (((ys.set i z).set o 77)).length = m7 := lb7
      replace r7 : Res2 _ _ w7 A7 (xs) BB7 (((ys.set i z).set o 77)) := r7
      have R7 := Lib.hid r7; have LA7 := Lib.hid la7; have LB7 := Lib.hid lb7
      have bn7 : n7 ≤ 1048576 := by { have h1 := LA7.out; have h2 := LB7.out; have h3 := BX.out; have h4 := BY.out; simp only [List.length_set] at h2; omega }
      have bm7 : m7 ≤ 1048576 := by { have h1 := LA7.out; have h2 := LB7.out; have h3 := BX.out; have h4 := BY.out; simp only [List.length_set] at h2; omega }
      have in7 : (n7 : Int) ≤ 1048576 := by omega
      have im7 : (m7 : Int) ≤ 1048576 := by omega
      have jn7 : (0 : Int) ≤ (n7 : Int) := by omega
      have jm7 : (0 : Int) ≤ (m7 : Int) := by omega
      clear la7 lb7 r7
      have AU : New w7 (w7.alloc (.cells #[.slice A7 n7 c7, .slice BB7 m7 d7, .int .i64 v] 27)) := by (repeat (first | exact New.refl _ | assumption | refine New.alloc ?_ _ | refine New.drew ?_ | refine New.drewN ?_ _ | refine New.setCell ?_ (by first | omega | (simp; omega) | (simp; done)) _ | refine New.trans ?_ (by assumption)))
      have Bb := Lib.hid (Bb.out.new AU)
      have Bc := Lib.hid (Bc.out.new AU)
      have Bw := Lib.hid (Bw.out.new AU)
      have Bp := Lib.hid (Bp.out.new AU)
      have Bq := Lib.hid (Bq.out.new AU)
      have I1 := Lib.hid (I1.out.new AU)
      have J1 := Lib.hid (J1.out.new AU)
      have R2 := Lib.hid (R2.out.new AU)
      have R3 := Lib.hid (R3.out.new AU)
      have R5 := Lib.hid (R5.out.new AU)
      have R6 := Lib.hid (R6.out.new AU)
      have R7 := Lib.hid (R7.out.new AU)
      have Br := Lib.hid (B3.laid w7 (.slice A7 n7 c7) (.slice BB7 m7 d7) (.int .i64 v) 27)
      have NBr := Lib.hid (N7.out.trans AU); clear AU
      obtain ⟨_, v33a, v33b, v33c, _, _, _⟩ := Bb.out
      obtain ⟨_, v34a, v34b, v34c, _, _, _⟩ := Bc.out
      obtain ⟨_, v35a, v35b, v35c, _, _, _⟩ := Bw.out
      obtain ⟨_, v36a, v36b, v36c, _, _, _⟩ := Bp.out
      obtain ⟨_, v37a, v37b, v37c, _, _, _⟩ := Bq.out
      obtain ⟨_, v38a, v38b, v38c, _, _, _⟩ := Br.out
      go_wp2_with fail
      refine (equalBuffers_any _ _ _ _ _ _ _ _ _ _ _ _ _ _ _ bn5 bm5 bn7 bm7 _ (R5.out.intsA LA5.out) (R5.out.intsB LB5.out) (R7.out.intsA LA7.out) (R7.out.intsB LB7.out)).mono ?_
      rintro e w8 ⟨rfl, N8a⟩
      clear v28a v28b v28c v29a v29b v29c v30a v30b v30c v31a v31b v31c v32a v32b v32c v33a v33b v33c v34a v34b v34c v35a v35b v35c v36a v36b v36c v37a v37b v37c v38a v38b v38c
      have s8 : w7.heap.size + 1 ≤ w8.heap.size := by { have := N8a.le; simpa using this }
      have Bb := Lib.hid (Bb.out.new N8a)
      have Bc := Lib.hid (Bc.out.new N8a)
      have Bw := Lib.hid (Bw.out.new N8a)
      have Bp := Lib.hid (Bp.out.new N8a)
      have Bq := Lib.hid (Bq.out.new N8a)
      have Br := Lib.hid (Br.out.new N8a)
      have I1 := Lib.hid (I1.out.new N8a)
      have J1 := Lib.hid (J1.out.new N8a)
      have R2 := Lib.hid (R2.out.new N8a)
      have R3 := Lib.hid (R3.out.new N8a)
      have R5 := Lib.hid (R5.out.new N8a)
      have R6 := Lib.hid (R6.out.new N8a)
      have R7 := Lib.hid (R7.out.new N8a)
      have N8 := Lib.hid (NBr.out.trans N8a); clear N8a
      obtain ⟨_, v39a, v39b, v39c, _, _, _⟩ := Bb.out
      obtain ⟨_, v40a, v40b, v40c, _, _, _⟩ := Bc.out
      obtain ⟨_, v41a, v41b, v41c, _, _, _⟩ := Bw.out
      obtain ⟨_, v42a, v42b, v42c, _, _, _⟩ := Bp.out
      obtain ⟨_, v43a, v43b, v43c, _, _, _⟩ := Bq.out
      obtain ⟨_, v44a, v44b, v44c, _, _, _⟩ := Br.out
      go_wp2
      go_ret
      exact ⟨rfl, N8.out⟩
end Go.Proofs.Ytopnegbaieflpaa
