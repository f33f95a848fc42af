/- The law FnWriteCellPending, walked: a written cell is pending exactly if its number is not the one that is shown. Condition: the code can be read. -/
import Derived.Test.YtbnelakllfbjiaaBufP
import Derived.Test.YtbnelakllfbjiaaBufQ
import Derived.Test.YtbnelakllfbjiaaDrawC
import Derived.Test.YtbnelakllfbjiaaInL
import Derived.Deep.QuietTactic
import Derived.BigQuiet
namespace Go.Proofs.Ytbnelakllfbjiaa
open Go.RowKit

set_option maxRecDepth 100000 in
set_option maxHeartbeats 1500000 in
theorem lawWriteCellPending (A : Option Addr) (n c : Nat) (hn : n ≤ maxLen) (hnc : n ≤ c) (w : World) (hb : Bytes w A n) :
    Calls Try.prog 5 #[.slice A n c] w fun e w' => e = .returned (.bool true) ∧ New w w' := by
  have HB := Lib.hid hb; have HM := Lib.hid hn
  clear hb
  unfold maxLen at hn
  by_cases hbig : 1048576 < n
  · go_enter Try.func5, Try.ntmps5
    go_wp2
    go_ret
    exact ⟨rfl, by (repeat (first | exact New.refl _ | assumption | refine New.alloc ?_ _ | refine New.drew ?_ | refine New.drewN ?_ _ | refine New.setCell ?_ (by first | omega | (simp; omega) | (simp; done)) _ | refine New.trans ?_ (by assumption)))⟩
  have hm : (n : Int) ≤ 1048576 := by omega
  have hm0 : (0 : Int) ≤ (n : Int) := by omega
  go_enter Try.func5, Try.ntmps5
  go_wp2_with fail
  refine (DrawWriteCell_any A n c HM.out hnc _ HB.out).mono ?_
  rintro e w1 ⟨B1, m1, d1, C1, k1, e1, v, xs, ys, x, z, rfl, I1, J1, b1, c1, N1a⟩
  have s1 : w.heap.size ≤ w1.heap.size := by { have := N1a.le; simpa using this }
  have N1 := Lib.hid ((New.refl w).trans N1a); clear N1a
  have LX := Lib.hid I1.len; have LY := Lib.hid J1.len; replace I1 := Lib.hid I1; replace J1 := Lib.hid J1
  have BX : Hid (xs.length ≤ 100) := Lib.hid (by have := LX.out; omega)
  have BY : Hid (ys.length ≤ 100) := Lib.hid (by have := LY.out; omega)
  have mi : (m1 : Int) ≤ 100 := by omega
  have mj : (0 : Int) ≤ (m1 : Int) := by omega
  have ki : (k1 : Int) ≤ 100 := by omega
  have kj : (0 : Int) ≤ (k1 : Int) := by omega
  have AU : New w1 (w1.alloc (.cells #[.slice B1 m1 d1, .slice C1 k1 e1, .int .i64 v] 25)) := by (repeat (first | exact New.refl _ | assumption | refine New.alloc ?_ _ | refine New.drew ?_ | refine New.drewN ?_ _ | refine New.setCell ?_ (by first | omega | (simp; omega) | (simp; done)) _ | refine New.trans ?_ (by assumption)))
  have I1 := Lib.hid (I1.out.new AU)
  have J1 := Lib.hid (J1.out.new AU)
  have Bb := Lib.hid (B3.laid w1 (.slice B1 m1 d1) (.slice C1 k1 e1) (.int .i64 v) 25)
  have NBb := Lib.hid (N1.out.trans AU); clear AU
  obtain ⟨_, v0a, v0b, v0c, _, _, _⟩ := Bb.out
  cases hok : wrOk v xs ys x z
  · skip
    go_wp2_with fail
    refine (WriteCell_ansB B1 m1 d1 C1 k1 e1 v xs ys x z (by omega) (by omega) _ I1.out J1.out).mono ?_
    rw [hok]
    rw [show okV false _ = 0 from rfl]
    rintro e w2 ⟨A2, n2, c2, BB2, m2, d2, rfl, la2, lb2, r2, N2a⟩
    clear v0a v0b v0c
    have s2 : w1.heap.size + 1 ≤ w2.heap.size := by { have := N2a.le; simpa using this }
    have Bb := Lib.hid (Bb.out.new N2a)
    have I1 := Lib.hid (I1.out.new N2a)
    have J1 := Lib.hid (J1.out.new N2a)
    have N2 := Lib.hid (NBb.out.trans N2a); clear N2a
    obtain ⟨_, v1a, v1b, v1c, _, _, _⟩ := Bb.out
    replace la2 : (([] : List Int)).length = n2 := la2
    replace lb2 : (([] : List Int)).length = m2 := lb2
    replace r2 : Res2 _ _ w2 A2 (([] : List Int)) BB2 (([] : List Int)) := r2
    have R2 := Lib.hid r2; have LA2 := Lib.hid la2; have LB2 := Lib.hid lb2
    have bn2 : n2 ≤ 1048576 := by { have h1 := LA2.out; have h2 := LB2.out; simp at h1 h2; omega }
    have bm2 : m2 ≤ 1048576 := by { have h1 := LA2.out; have h2 := LB2.out; simp at h1 h2; omega }
    have in2 : (n2 : Int) ≤ 1048576 := by omega
    have im2 : (m2 : Int) ≤ 1048576 := by omega
    have jn2 : (0 : Int) ≤ (n2 : Int) := by omega
    have jm2 : (0 : Int) ≤ (m2 : Int) := by omega
    clear la2 lb2 r2
    have AU : New w2 (w2.alloc (.cells #[.slice A2 n2 c2, .slice BB2 m2 d2, .int .i64 0] 25)) := by (repeat (first | exact New.refl _ | assumption | refine New.alloc ?_ _ | refine New.drew ?_ | refine New.drewN ?_ _ | refine New.setCell ?_ (by first | omega | (simp; omega) | (simp; done)) _ | refine New.trans ?_ (by assumption)))
    have Bb := Lib.hid (Bb.out.new AU)
    have I1 := Lib.hid (I1.out.new AU)
    have J1 := Lib.hid (J1.out.new AU)
    have R2 := Lib.hid (R2.out.new AU)
    have Bc := Lib.hid (B3.laid w2 (.slice A2 n2 c2) (.slice BB2 m2 d2) (.int .i64 0) 25)
    have NBc := Lib.hid (N2.out.trans AU); clear AU
    obtain ⟨_, v2a, v2b, v2c, _, _, _⟩ := Bb.out
    obtain ⟨_, v3a, v3b, v3c, _, _, _⟩ := Bc.out
    go_wp2_with fail
    refine (SWriteCell_ansB B1 m1 d1 C1 k1 e1 v xs ys x z (by omega) (by omega) _ I1.out J1.out).mono ?_
    rw [hok]
    rw [show okV false _ = 0 from rfl]
    rintro e w3 ⟨A3, n3, c3, BB3, m3, d3, rfl, la3, lb3, r3, N3a⟩
    clear v1a v1b v1c v2a v2b v2c v3a v3b v3c
    have s3 : w2.heap.size + 1 ≤ w3.heap.size := by { have := N3a.le; simpa using this }
    have Bb := Lib.hid (Bb.out.new N3a)
    have Bc := Lib.hid (Bc.out.new N3a)
    have I1 := Lib.hid (I1.out.new N3a)
    have J1 := Lib.hid (J1.out.new N3a)
    have R2 := Lib.hid (R2.out.new N3a)
    have N3 := Lib.hid (NBc.out.trans N3a); clear N3a
    obtain ⟨_, v4a, v4b, v4c, _, _, _⟩ := Bb.out
    obtain ⟨_, v5a, v5b, v5c, _, _, _⟩ := Bc.out
    replace la3 : (([] : List Int)).length = n3 := la3
    replace lb3 : (([] : List Int)).length = m3 := lb3
    replace r3 : Res2 _ _ w3 A3 (([] : List Int)) BB3 (([] : List Int)) := r3
    have R3 := Lib.hid r3; have LA3 := Lib.hid la3; have LB3 := Lib.hid lb3
    have bn3 : n3 ≤ 1048576 := by { have h1 := LA3.out; have h2 := LB3.out; simp at h1 h2; omega }
    have bm3 : m3 ≤ 1048576 := by { have h1 := LA3.out; have h2 := LB3.out; simp at h1 h2; omega }
    have in3 : (n3 : Int) ≤ 1048576 := by omega
    have im3 : (m3 : Int) ≤ 1048576 := by omega
    have jn3 : (0 : Int) ≤ (n3 : Int) := by omega
    have jm3 : (0 : Int) ≤ (m3 : Int) := by omega
    clear la3 lb3 r3
    have AU : New w3 (w3.alloc (.cells #[.slice A3 n3 c3, .slice BB3 m3 d3, .int .i64 0] 25)) := by (repeat (first | exact New.refl _ | assumption | refine New.alloc ?_ _ | refine New.drew ?_ | refine New.drewN ?_ _ | refine New.setCell ?_ (by first | omega | (simp; omega) | (simp; done)) _ | refine New.trans ?_ (by assumption)))
    have Bb := Lib.hid (Bb.out.new AU)
    have Bc := Lib.hid (Bc.out.new AU)
    have I1 := Lib.hid (I1.out.new AU)
    have J1 := Lib.hid (J1.out.new AU)
    have R2 := Lib.hid (R2.out.new AU)
    have R3 := Lib.hid (R3.out.new AU)
    have Bw := Lib.hid (B3.laid w3 (.slice A3 n3 c3) (.slice BB3 m3 d3) (.int .i64 0) 25)
    have NBw := Lib.hid (N3.out.trans AU); clear AU
    obtain ⟨_, v6a, v6b, v6c, _, _, _⟩ := Bb.out
    obtain ⟨_, v7a, v7b, v7c, _, _, _⟩ := Bc.out
    obtain ⟨_, v8a, v8b, v8c, _, _, _⟩ := Bw.out
    go_wp2_with fail
    refine (equalBuffers_any _ _ _ _ _ _ _ _ _ _ _ _ _ _ _ bn2 bm2 bn3 bm3 _ (R2.out.intsA LA2.out) (R2.out.intsB LB2.out) (R3.out.intsA LA3.out) (R3.out.intsB LB3.out)).mono ?_
    rintro e w4 ⟨rfl, N4a⟩
    clear v4a v4b v4c v5a v5b v5c v6a v6b v6c v7a v7b v7c v8a v8b v8c
    have s4 : w3.heap.size + 1 ≤ w4.heap.size := by { have := N4a.le; simpa using this }
    have Bb := Lib.hid (Bb.out.new N4a)
    have Bc := Lib.hid (Bc.out.new N4a)
    have Bw := Lib.hid (Bw.out.new N4a)
    have I1 := Lib.hid (I1.out.new N4a)
    have J1 := Lib.hid (J1.out.new N4a)
    have R2 := Lib.hid (R2.out.new N4a)
    have R3 := Lib.hid (R3.out.new N4a)
    have N4 := Lib.hid (NBw.out.trans N4a); clear N4a
    obtain ⟨_, v9a, v9b, v9c, _, _, _⟩ := Bb.out
    obtain ⟨_, v10a, v10b, v10c, _, _, _⟩ := Bc.out
    obtain ⟨_, v11a, v11b, v11c, _, _, _⟩ := Bw.out
    go_wp2_with fail
    refine (equalBuffers_any _ _ _ _ _ _ _ _ _ _ _ _ _ _ _ bn2 bm2 bn3 bm3 _ (R2.out.intsA LA2.out) (R2.out.intsB LB2.out) (R3.out.intsA LA3.out) (R3.out.intsB LB3.out)).mono ?_
    rintro e w5 ⟨rfl, N5a⟩
    clear v9a v9b v9c v10a v10b v10c v11a v11b v11c
    have s5 : w4.heap.size ≤ w5.heap.size := by { have := N5a.le; simpa using this }
    have Bb := Lib.hid (Bb.out.new N5a)
    have Bc := Lib.hid (Bc.out.new N5a)
    have Bw := Lib.hid (Bw.out.new N5a)
    have I1 := Lib.hid (I1.out.new N5a)
    have J1 := Lib.hid (J1.out.new N5a)
    have R2 := Lib.hid (R2.out.new N5a)
    have R3 := Lib.hid (R3.out.new N5a)
    have N5 := Lib.hid (N4.out.trans N5a); clear N5a
    obtain ⟨_, v12a, v12b, v12c, _, _, _⟩ := Bb.out
    obtain ⟨_, v13a, v13b, v13c, _, _, _⟩ := Bc.out
    obtain ⟨_, v14a, v14b, v14c, _, _, _⟩ := Bw.out
    go_wp2
    go_ret
    exact ⟨rfl, N5.out⟩
  · obtain ⟨OV, NZ, i, hi, rfl⟩ := wrOk_yes hok
    have OV := Lib.hid OV; have NZ := Lib.hid NZ; have HOK := Lib.hid hok
    have OC : Hid (okB v xs (ys.set i z) = true) := Lib.hid (okB_set OV.out NZ.out)
    have i0 : (0 : Int) ≤ (i : Int) := by omega
    have i1 : (i : Int) < (m1 : Int) := by have := LX.out; omega
    have him : i < m1 := by omega
    have E12 : Hid (xs.length = ys.length) := Lib.hid (okB_len OV.out).1
    have eT : Hid (ys.set (i : Int).toNat z = ys.set i z) := Lib.hid (by rw [Int.toNat_natCast])
    clear hok
    go_wp2_with fail
    refine (WriteCell_ansB B1 m1 d1 C1 k1 e1 v xs ys (i : Int) z (by omega) (by omega) _ I1.out J1.out).mono ?_
    rw [HOK.out, eT.out]
    rw [show okV true v = v from rfl]
    rintro e w2 ⟨A2, n2, c2, BB2, m2, d2, rfl, la2, lb2, r2, N2a⟩
    clear v0a v0b v0c
    have s2 : w1.heap.size + 1 ≤ w2.heap.size := by { have := N2a.le; simpa using this }
    have Bb := Lib.hid (Bb.out.new N2a)
    have I1 := Lib.hid (I1.out.new N2a)
    have J1 := Lib.hid (J1.out.new N2a)
    have N2 := Lib.hid (NBb.out.trans N2a); clear N2a
    obtain ⟨_, v1a, v1b, v1c, _, _, _⟩ := Bb.out
    replace la2 : (xs).length = n2 := la2
    replace lb2 : ((ys.set i z)).length = m2 := lb2
    replace r2 : Res2 _ _ w2 A2 (xs) BB2 ((ys.set i z)) := r2
    have R2 := Lib.hid r2; have LA2 := Lib.hid la2; have LB2 := Lib.hid lb2
    have bn2 : n2 ≤ 1048576 := by { have h1 := LA2.out; have h2 := LB2.out; have h3 := BX.out; have h4 := BY.out; rw [List.length_set] at h2; omega }
    have bm2 : m2 ≤ 1048576 := by { have h1 := LA2.out; have h2 := LB2.out; have h3 := BX.out; have h4 := BY.out; rw [List.length_set] at h2; omega }
    have in2 : (n2 : Int) ≤ 1048576 := by omega
    have im2 : (m2 : Int) ≤ 1048576 := by omega
    have jn2 : (0 : Int) ≤ (n2 : Int) := by omega
    have jm2 : (0 : Int) ≤ (m2 : Int) := by omega
    clear la2 lb2 r2
    have AU : New w2 (w2.alloc (.cells #[.slice A2 n2 c2, .slice BB2 m2 d2, .int .i64 v] 25)) := by (repeat (first | exact New.refl _ | assumption | refine New.alloc ?_ _ | refine New.drew ?_ | refine New.drewN ?_ _ | refine New.setCell ?_ (by first | omega | (simp; omega) | (simp; done)) _ | refine New.trans ?_ (by assumption)))
    have Bb := Lib.hid (Bb.out.new AU)
    have I1 := Lib.hid (I1.out.new AU)
    have J1 := Lib.hid (J1.out.new AU)
    have R2 := Lib.hid (R2.out.new AU)
    have Bc := Lib.hid (B3.laid w2 (.slice A2 n2 c2) (.slice BB2 m2 d2) (.int .i64 v) 25)
    have NBc := Lib.hid (N2.out.trans AU); clear AU
    obtain ⟨_, v2a, v2b, v2c, _, _, _⟩ := Bb.out
    obtain ⟨_, v3a, v3b, v3c, _, _, _⟩ := Bc.out
    go_wp2_with fail
    refine (SWriteCell_ansB B1 m1 d1 C1 k1 e1 v xs ys (i : Int) z (by omega) (by omega) _ I1.out J1.out).mono ?_
    rw [HOK.out, eT.out]
    rw [show okV true v = v from rfl]
    rintro e w3 ⟨A3, n3, c3, BB3, m3, d3, rfl, la3, lb3, r3, N3a⟩
    clear v1a v1b v1c v2a v2b v2c v3a v3b v3c
    have s3 : w2.heap.size + 1 ≤ w3.heap.size := by { have := N3a.le; simpa using this }
    have Bb := Lib.hid (Bb.out.new N3a)
    have Bc := Lib.hid (Bc.out.new N3a)
    have I1 := Lib.hid (I1.out.new N3a)
    have J1 := Lib.hid (J1.out.new N3a)
    have R2 := Lib.hid (R2.out.new N3a)
    have N3 := Lib.hid (NBc.out.trans N3a); clear N3a
    obtain ⟨_, v4a, v4b, v4c, _, _, _⟩ := Bb.out
    obtain ⟨_, v5a, v5b, v5c, _, _, _⟩ := Bc.out
    replace la3 : (xs).length = n3 := la3
    replace lb3 : ((ys.set i z)).length = m3 := lb3
    replace r3 : Res2 _ _ w3 A3 (xs) BB3 ((ys.set i z)) := r3
    have R3 := Lib.hid r3; have LA3 := Lib.hid la3; have LB3 := Lib.hid lb3
    have bn3 : n3 ≤ 1048576 := by { have h1 := LA3.out; have h2 := LB3.out; have h3 := BX.out; have h4 := BY.out; rw [List.length_set] at h2; omega }
    have bm3 : m3 ≤ 1048576 := by { have h1 := LA3.out; have h2 := LB3.out; have h3 := BX.out; have h4 := BY.out; rw [List.length_set] at h2; omega }
    have in3 : (n3 : Int) ≤ 1048576 := by omega
    have im3 : (m3 : Int) ≤ 1048576 := by omega
    have jn3 : (0 : Int) ≤ (n3 : Int) := by omega
    have jm3 : (0 : Int) ≤ (m3 : Int) := by omega
    clear la3 lb3 r3
    have AU : New w3 (w3.alloc (.cells #[.slice A3 n3 c3, .slice BB3 m3 d3, .int .i64 v] 25)) := by (repeat (first | exact New.refl _ | assumption | refine New.alloc ?_ _ | refine New.drew ?_ | refine New.drewN ?_ _ | refine New.setCell ?_ (by first | omega | (simp; omega) | (simp; done)) _ | refine New.trans ?_ (by assumption)))
    have Bb := Lib.hid (Bb.out.new AU)
    have Bc := Lib.hid (Bc.out.new AU)
    have I1 := Lib.hid (I1.out.new AU)
    have J1 := Lib.hid (J1.out.new AU)
    have R2 := Lib.hid (R2.out.new AU)
    have R3 := Lib.hid (R3.out.new AU)
    have Bw := Lib.hid (B3.laid w3 (.slice A3 n3 c3) (.slice BB3 m3 d3) (.int .i64 v) 25)
    have NBw := Lib.hid (N3.out.trans AU); clear AU
    obtain ⟨_, v6a, v6b, v6c, _, _, _⟩ := Bb.out
    obtain ⟨_, v7a, v7b, v7c, _, _, _⟩ := Bc.out
    obtain ⟨_, v8a, v8b, v8c, _, _, _⟩ := Bw.out
    go_wp2_with fail
    refine (equalBuffers_any _ _ _ _ _ _ _ _ _ _ _ _ _ _ _ bn2 bm2 bn3 bm3 _ (R2.out.intsA LA2.out) (R2.out.intsB LB2.out) (R3.out.intsA LA3.out) (R3.out.intsB LB3.out)).mono ?_
    rintro e w4 ⟨rfl, N4a⟩
    clear v4a v4b v4c v5a v5b v5c v6a v6b v6c v7a v7b v7c v8a v8b v8c
    have s4 : w3.heap.size + 1 ≤ w4.heap.size := by { have := N4a.le; simpa using this }
    have Bb := Lib.hid (Bb.out.new N4a)
    have Bc := Lib.hid (Bc.out.new N4a)
    have Bw := Lib.hid (Bw.out.new N4a)
    have I1 := Lib.hid (I1.out.new N4a)
    have J1 := Lib.hid (J1.out.new N4a)
    have R2 := Lib.hid (R2.out.new N4a)
    have R3 := Lib.hid (R3.out.new N4a)
    have N4 := Lib.hid (NBw.out.trans N4a); clear N4a
    obtain ⟨_, v9a, v9b, v9c, _, _, _⟩ := Bb.out
    obtain ⟨_, v10a, v10b, v10c, _, _, _⟩ := Bc.out
    obtain ⟨_, v11a, v11b, v11c, _, _, _⟩ := Bw.out
    have EP : Hid (pendA v xs ys = pendTo xs ys m1) := Lib.hid (by unfold pendA; rw [OV.out, LX.out]; rfl)
    have EQ : Hid (pendA v xs (ys.set i z) = pendTo xs (ys.set i z) m1) := Lib.hid (by unfold pendA; rw [OC.out, LX.out]; rfl)
    go_wp2_with fail
    refine (PendingCells_ans B1 m1 d1 C1 k1 e1 v xs ys (by omega) (by omega) _ I1.out J1.out).mono ?_
    rw [EP.out]
    rintro e w5 ⟨A5, n5, c5, rfl, la5, r5, N5a⟩
    clear v9a v9b v9c v10a v10b v10c v11a v11b v11c
    have s5 : w4.heap.size ≤ w5.heap.size := by { have := N5a.le; simpa using this }
    have Bb := Lib.hid (Bb.out.new N5a)
    have Bc := Lib.hid (Bc.out.new N5a)
    have Bw := Lib.hid (Bw.out.new N5a)
    have I1 := Lib.hid (I1.out.new N5a)
    have J1 := Lib.hid (J1.out.new N5a)
    have R2 := Lib.hid (R2.out.new N5a)
    have R3 := Lib.hid (R3.out.new N5a)
    have N5 := Lib.hid (N4.out.trans N5a); clear N5a
    obtain ⟨_, v12a, v12b, v12c, _, _, _⟩ := Bb.out
    obtain ⟨_, v13a, v13b, v13c, _, _, _⟩ := Bc.out
    obtain ⟨_, v14a, v14b, v14c, _, _, _⟩ := Bw.out
    have PL5 := pendTo_len xs ys m1
    have R5 := Lib.hid r5; have LA5 := Lib.hid la5; have bn5 : n5 ≤ 1048576 := by omega
    clear la5 r5 PL5
    go_wp2_with fail
    refine (PendingCells_ans A2 n2 c2 BB2 m2 d2 v (xs) ((ys.set i z)) bn2 bm2 _ (R2.out.intsA LA2.out) (R2.out.intsB LB2.out)).mono ?_
    rw [EQ.out]
    rintro e w6 ⟨A6, n6, c6, rfl, la6, r6, N6a⟩
    clear v12a v12b v12c v13a v13b v13c v14a v14b v14c
    have s6 : w5.heap.size ≤ w6.heap.size := by { have := N6a.le; simpa using this }
    have Bb := Lib.hid (Bb.out.new N6a)
    have Bc := Lib.hid (Bc.out.new N6a)
    have Bw := Lib.hid (Bw.out.new N6a)
    have I1 := Lib.hid (I1.out.new N6a)
    have J1 := Lib.hid (J1.out.new N6a)
    have R2 := Lib.hid (R2.out.new N6a)
    have R3 := Lib.hid (R3.out.new N6a)
    have R5 := Lib.hid (R5.out.new N6a)
    have N6 := Lib.hid (N5.out.trans N6a); clear N6a
    obtain ⟨_, v15a, v15b, v15c, _, _, _⟩ := Bb.out
    obtain ⟨_, v16a, v16b, v16c, _, _, _⟩ := Bc.out
    obtain ⟨_, v17a, v17b, v17c, _, _, _⟩ := Bw.out
    have PL6 := pendTo_len xs (ys.set i z) m1
    have R6 := Lib.hid r6; have LA6 := Lib.hid la6; have bn6 : n6 ≤ 1048576 := by omega
    clear la6 r6 PL6
    go_wp2
    clear v15a v15b v15c v16a v16b v16c v17a v17b v17c
    go_loopw [12] (fun ii wr => ∃ q : Nat, q ≤ m1 ∧ ii = .int .i64 (q : Int) ∧ Hid (New w6 wr)) (fun ii _ => m1 - (intOf ii).toNat)
    case atStart => exact ⟨0, Nat.zero_le _, rfl, Lib.hid (New.refl _)⟩
    case round =>
      obtain ⟨q, hq, rfl, HN⟩ := hrel
      have q0 : (0 : Int) ≤ (q : Int) := by omega
      have zw : w6.heap.size ≤ wr.heap.size := HN.out.le
      have Bb := Lib.hid (Bb.out.new HN.out)
      have Bc := Lib.hid (Bc.out.new HN.out)
      have Bw := Lib.hid (Bw.out.new HN.out)
      have I1 := Lib.hid (I1.out.new HN.out)
      have J1 := Lib.hid (J1.out.new HN.out)
      have R2 := Lib.hid (R2.out.new HN.out)
      have R3 := Lib.hid (R3.out.new HN.out)
      have R5 := Lib.hid (R5.out.new HN.out)
      have R6 := Lib.hid (R6.out.new HN.out)
      have NR := Lib.hid (N6.out.trans HN.out)
      obtain ⟨_, v18a, v18b, v18c, _, _, _⟩ := Bb.out
      obtain ⟨_, v19a, v19b, v19c, _, _, _⟩ := Bc.out
      obtain ⟨_, v20a, v20b, v20c, _, _, _⟩ := Bw.out
      by_cases hlt : q < m1
      · have q1 : (q : Int) < (m1 : Int) := by omega
        obtain ⟨b, off, hB, hb, hcc⟩ := I1.out.at_ (by omega)
        subst hB
        have gc := hcc q hlt
        have IA : Hid (inL (pendTo xs (ys.set i z) m1) q = (xs.getD q 0 != (ys.set i z).getD q 0)) := Lib.hid (inL_pend hlt)
        have IB : Hid (inL (pendTo xs ys m1) q = (xs.getD q 0 != ys.getD q 0)) := Lib.hid (inL_pend hlt)
        obtain ⟨y, hy⟩ : ∃ y, xs.getD q 0 = y := ⟨_, rfl⟩
        rw [hy] at gc
        have hqy : q < ys.length := by have h1 := E12.out; have h2 := LX.out; omega
        have EG : Hid ((ys.set i z).getD q 0 = if i = q then z else ys.getD q 0) := Lib.hid (getD_set ys i q z hqy)
        clear hcc hb
        by_cases he : q = i
        · subst he
          have IA2 : Hid (inL (pendTo xs (ys.set q z) m1) q = (y != z)) := Lib.hid (by rw [IA.out, EG.out, if_pos rfl, hy])
          clear hy
          cases hyz : (y != z)
          · have hyz2 : (y == z) = true := by simpa using hyz
            have CA := Lib.hid (fun (W : World) (h : Ints W A6 n6 (pendTo xs (ys.set q z) m1)) => (show Calls Try.prog 24 #[.slice A6 n6 c6, .int .i64 (q : Int)] W fun e w' => e = .returned (.bool false) ∧ W = w' by have h1 := isInL_any A6 n6 c6 q (pendTo xs (ys.set q z) m1) bn6 W h; rw [IA2.out, hyz] at h1; exact h1))
            go_wp2
            go_quiet ((go_at_call 24; exact Calls.quiet_of_same ((CA.out _ ((R6.out.ints LA6.out).drewN _)).mono fun _ _ h => ⟨h.1, h.2.symm⟩)))
            go_wp2
            go_roundw
            case rel => exact ⟨q + 1, by omega, by go_num, Lib.hid (HN.out.drewN nq)⟩
            case measure => simp [intOf]; omega
          · have hyz2 : (y == z) = false := by simpa using hyz
            have CA := Lib.hid (fun (W : World) (h : Ints W A6 n6 (pendTo xs (ys.set q z) m1)) => (show Calls Try.prog 24 #[.slice A6 n6 c6, .int .i64 (q : Int)] W fun e w' => e = .returned (.bool true) ∧ W = w' by have h1 := isInL_any A6 n6 c6 q (pendTo xs (ys.set q z) m1) bn6 W h; rw [IA2.out, hyz] at h1; exact h1))
            go_wp2
            go_quiet ((go_at_call 24; exact Calls.quiet_of_same ((CA.out _ ((R6.out.ints LA6.out).drewN _)).mono fun _ _ h => ⟨h.1, h.2.symm⟩)))
            go_wp2
            go_roundw
            case rel => exact ⟨q + 1, by omega, by go_num, Lib.hid (HN.out.drewN nq)⟩
            case measure => simp [intOf]; omega
        · have hd1 : ((q : Int) == (i : Int)) = false := by simp; omega
          have hd2 : (q == i) = false := by simpa using he
          have hd3 : ((q : Int) != (i : Int)) = true := by simp; omega
          have hd4 : (q != i) = true := by simpa using he
          have hd5 : decide (q = i) = false := by simpa using he
          have IA2 : Hid (inL (pendTo xs (ys.set i z) m1) q = inL (pendTo xs ys m1) q) := Lib.hid (by rw [IA.out, EG.out, if_neg (fun h => he h.symm), IB.out])
          clear hy he
          cases hbb : inL (pendTo xs ys m1) q
          · have HBB := Lib.hid hbb; clear hbb
            have CA := Lib.hid (fun (W : World) (h : Ints W A6 n6 (pendTo xs (ys.set i z) m1)) => (show Calls Try.prog 24 #[.slice A6 n6 c6, .int .i64 (q : Int)] W fun e w' => e = .returned (.bool false) ∧ W = w' by have h1 := isInL_any A6 n6 c6 q (pendTo xs (ys.set i z) m1) bn6 W h; rw [IA2.out, HBB.out] at h1; exact h1))
            have CB := Lib.hid (fun (W : World) (h : Ints W A5 n5 (pendTo xs ys m1)) => (show Calls Try.prog 24 #[.slice A5 n5 c5, .int .i64 (q : Int)] W fun e w' => e = .returned (.bool false) ∧ W = w' by have h1 := isInL_any A5 n5 c5 q (pendTo xs ys m1) bn5 W h; rw [HBB.out] at h1; exact h1))
            go_wp2
            go_quiet ((first | (go_at_call 24; with_reducible exact Calls.quiet_of_same ((CA.out _ ((R6.out.ints LA6.out).drewN _)).mono fun _ _ h => ⟨h.1, h.2.symm⟩)) | (go_at_call 24; with_reducible exact Calls.quiet_of_same ((CB.out _ ((R5.out.ints LA5.out).drewN _)).mono fun _ _ h => ⟨h.1, h.2.symm⟩))))
            go_wp2
            go_roundw
            case rel => exact ⟨q + 1, by omega, by go_num, Lib.hid (HN.out.drewN nq)⟩
            case measure => simp [intOf]; omega
          · have HBB := Lib.hid hbb; clear hbb
            have CA := Lib.hid (fun (W : World) (h : Ints W A6 n6 (pendTo xs (ys.set i z) m1)) => (show Calls Try.prog 24 #[.slice A6 n6 c6, .int .i64 (q : Int)] W fun e w' => e = .returned (.bool true) ∧ W = w' by have h1 := isInL_any A6 n6 c6 q (pendTo xs (ys.set i z) m1) bn6 W h; rw [IA2.out, HBB.out] at h1; exact h1))
            have CB := Lib.hid (fun (W : World) (h : Ints W A5 n5 (pendTo xs ys m1)) => (show Calls Try.prog 24 #[.slice A5 n5 c5, .int .i64 (q : Int)] W fun e w' => e = .returned (.bool true) ∧ W = w' by have h1 := isInL_any A5 n5 c5 q (pendTo xs ys m1) bn5 W h; rw [HBB.out] at h1; exact h1))
            go_wp2
            go_quiet ((first | (go_at_call 24; with_reducible exact Calls.quiet_of_same ((CA.out _ ((R6.out.ints LA6.out).drewN _)).mono fun _ _ h => ⟨h.1, h.2.symm⟩)) | (go_at_call 24; with_reducible exact Calls.quiet_of_same ((CB.out _ ((R5.out.ints LA5.out).drewN _)).mono fun _ _ h => ⟨h.1, h.2.symm⟩))))
            go_wp2
            go_roundw
            case rel => exact ⟨q + 1, by omega, by go_num, Lib.hid (HN.out.drewN nq)⟩
            case measure => simp [intOf]; omega
      · obtain rfl : m1 = q := by omega
        go_wp2
        go_ret
        exact ⟨rfl, NR.out⟩
end Go.Proofs.Ytbnelakllfbjiaa
