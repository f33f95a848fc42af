/- The law FnReadCell, walked: cells are read from the front, and behind DropBack, too. Condition: the code can be read. -/
import Derived.Test.YtopnegbaieflpaaBufP
import Derived.Test.YtopnegbaieflpaaBufQ
import Derived.Test.YtopnegbaieflpaaDrawC
namespace Go.Proofs.Ytopnegbaieflpaa
open Go.RowKit

set_option maxRecDepth 100000 in
set_option maxHeartbeats 4000000 in
theorem lawReadCell (A : Option Addr) (n c : Nat) (hn : n ≤ maxLen) (hnc : n ≤ c) (w : World) (hb : Bytes w A n) :
    Calls Try.prog 12 #[.slice A n c] w fun e w' => e = .returned (.bool true) ∧ New w w' := by
  have HB := Lib.hid hb; have HM := Lib.hid hn
  clear hb
  unfold maxLen at hn
  by_cases hbig : 1048576 < n
  · go_enter Try.func12, Try.ntmps12
    go_wp2
    go_ret
    exact ⟨rfl, by (repeat (first | exact New.refl _ | assumption | refine New.alloc ?_ _ | refine New.drew ?_ | refine New.drewN ?_ _ | refine New.setCell ?_ (by first | omega | (simp; omega) | (simp; done)) _ | refine New.trans ?_ (by assumption)))⟩
  have hm : (n : Int) ≤ 1048576 := by omega
  have hm0 : (0 : Int) ≤ (n : Int) := by omega
  go_enter Try.func12, Try.ntmps12
  go_wp2_with fail
  refine (DrawReadCell_any A n c HM.out hnc _ HB.out).mono ?_
  rintro e w1 ⟨B1, m1, d1, C1, k1, e1, v, xs, ys, x, rfl, I1, J1, b1, c1, N1a⟩
  have s1 : w.heap.size ≤ w1.heap.size := by { have := N1a.le; simpa using this }
  have N1 := Lib.hid ((New.refl w).trans N1a); clear N1a
  have LX := Lib.hid I1.len; have LY := Lib.hid J1.len; replace I1 := Lib.hid I1; replace J1 := Lib.hid J1
  have BX : Hid (xs.length ≤ 100) := Lib.hid (by have := LX.out; omega)
  have BY : Hid (ys.length ≤ 100) := Lib.hid (by have := LY.out; omega)
  have mi : (m1 : Int) ≤ 100 := by omega
  have mj : (0 : Int) ≤ (m1 : Int) := by omega
  have ki : (k1 : Int) ≤ 100 := by omega
  have kj : (0 : Int) ≤ (k1 : Int) := by omega
  have AU : New w1 (w1.alloc (.cells #[.slice B1 m1 d1, .slice C1 k1 e1, .int .i64 v] 27)) := by (repeat (first | exact New.refl _ | assumption | refine New.alloc ?_ _ | refine New.drew ?_ | refine New.drewN ?_ _ | refine New.setCell ?_ (by first | omega | (simp; omega) | (simp; done)) _ | refine New.trans ?_ (by assumption)))
  have I1 := Lib.hid (I1.out.new AU)
  have J1 := Lib.hid (J1.out.new AU)
  have Bb := Lib.hid (B3.laid w1 (.slice B1 m1 d1) (.slice C1 k1 e1) (.int .i64 v) 27)
  have NBb := Lib.hid (N1.out.trans AU); clear AU
  obtain ⟨_, v0a, v0b, v0c, _, _, _⟩ := Bb.out
  cases hok : rdOk v xs ys x
  · skip
    go_wp2_with fail
    refine (ReadCell_any B1 m1 d1 C1 k1 e1 v xs ys x (by omega) (by omega) _ I1.out J1.out).mono ?_
    rw [hok]
    rw [show okV false _ = 0 from rfl]
    rintro e w2 ⟨rfl, N2a⟩
    clear v0a v0b v0c
    have s2 : w1.heap.size + 1 ≤ w2.heap.size := by { have := N2a.le; simpa using this }
    have Bb := Lib.hid (Bb.out.new N2a)
    have I1 := Lib.hid (I1.out.new N2a)
    have J1 := Lib.hid (J1.out.new N2a)
    have N2 := Lib.hid (NBb.out.trans N2a); clear N2a
    obtain ⟨_, v1a, v1b, v1c, _, _, _⟩ := Bb.out
    go_wp2_with fail
    refine (SReadCell_any B1 m1 d1 C1 k1 e1 v xs ys x (by omega) (by omega) _ I1.out J1.out).mono ?_
    rw [hok]
    rw [show okV false _ = 0 from rfl]
    rintro e w3 ⟨rfl, N3a⟩
    clear v1a v1b v1c
    have s3 : w2.heap.size ≤ w3.heap.size := by { have := N3a.le; simpa using this }
    have Bb := Lib.hid (Bb.out.new N3a)
    have I1 := Lib.hid (I1.out.new N3a)
    have J1 := Lib.hid (J1.out.new N3a)
    have N3 := Lib.hid (N2.out.trans N3a); clear N3a
    obtain ⟨_, v2a, v2b, v2c, _, _, _⟩ := Bb.out
    go_wp2
    go_ret
    exact ⟨rfl, N3.out⟩
  · obtain ⟨OV, i, hi, rfl⟩ := rdOk_yes hok
    have OV := Lib.hid OV; have HOK := Lib.hid hok; obtain ⟨y, hy⟩ : ∃ y, xs.getD i 0 = y := ⟨_, rfl⟩
    have e0 : Hid (okV true (xs.getD (i : Int).toNat 0) = y) := Lib.hid (by rw [Int.toNat_natCast]; exact hy)
    have Hy := Lib.hid hy; clear hy
    have i0 : (0 : Int) ≤ (i : Int) := by omega
    have i1 : (i : Int) < (m1 : Int) := by have := LX.out; omega
    have him : i < m1 := by omega
    go_wp2_with fail
    refine (ReadCell_any B1 m1 d1 C1 k1 e1 v xs ys (i : Int) (by omega) (by omega) _ I1.out J1.out).mono ?_
    rw [HOK.out, e0.out]
    rintro e w2 ⟨rfl, N2a⟩
    clear v0a v0b v0c
    have s2 : w1.heap.size + 1 ≤ w2.heap.size := by { have := N2a.le; simpa using this }
    have Bb := Lib.hid (Bb.out.new N2a)
    have I1 := Lib.hid (I1.out.new N2a)
    have J1 := Lib.hid (J1.out.new N2a)
    have N2 := Lib.hid (NBb.out.trans N2a); clear N2a
    obtain ⟨_, v1a, v1b, v1c, _, _, _⟩ := Bb.out
    go_wp2_with fail
    refine (SReadCell_any B1 m1 d1 C1 k1 e1 v xs ys (i : Int) (by omega) (by omega) _ I1.out J1.out).mono ?_
    rw [HOK.out, e0.out]
    rintro e w3 ⟨rfl, N3a⟩
    clear v1a v1b v1c
    have s3 : w2.heap.size ≤ w3.heap.size := by { have := N3a.le; simpa using this }
    have Bb := Lib.hid (Bb.out.new N3a)
    have I1 := Lib.hid (I1.out.new N3a)
    have J1 := Lib.hid (J1.out.new N3a)
    have N3 := Lib.hid (N2.out.trans N3a); clear N3a
    obtain ⟨_, v2a, v2b, v2c, _, _, _⟩ := Bb.out
    go_wp2_with fail
    refine (DropBack_ansB B1 m1 d1 C1 k1 e1 v xs ys (by omega) (by omega) _ I1.out J1.out).mono ?_
    rw [OV.out]
    rw [show okV true v = v from rfl]
    rintro e w4 ⟨A4, n4, c4, BB4, m4, d4, rfl, la4, lb4, r4, N4a⟩
    clear v2a v2b v2c
    have s4 : w3.heap.size ≤ w4.heap.size := by { have := N4a.le; simpa using this }
    have Bb := Lib.hid (Bb.out.new N4a)
    have I1 := Lib.hid (I1.out.new N4a)
    have J1 := Lib.hid (J1.out.new N4a)
    have N4 := Lib.hid (N3.out.trans N4a); clear N4a
    obtain ⟨_, v3a, v3b, v3c, _, _, _⟩ := Bb.out
    replace la4 : (xs).length = n4 := la4
    replace lb4 : (xs).length = m4 := lb4
    replace r4 : Res2 _ _ w4 A4 (xs) BB4 (xs) := r4
    have R4 := Lib.hid r4; have LA4 := Lib.hid la4; have LB4 := Lib.hid lb4
    have bn4 : n4 ≤ 1048576 := by { have h1 := LA4.out; have h2 := LB4.out; have h4 := BX.out; omega }
    have bm4 : m4 ≤ 1048576 := by { have h1 := LA4.out; have h2 := LB4.out; have h4 := BX.out; omega }
    have in4 : (n4 : Int) ≤ 1048576 := by omega
    have im4 : (m4 : Int) ≤ 1048576 := by omega
    have jn4 : (0 : Int) ≤ (n4 : Int) := by omega
    have jm4 : (0 : Int) ≤ (m4 : Int) := by omega
    clear la4 lb4 r4
    have AU : New w4 (w4.alloc (.cells #[.slice A4 n4 c4, .slice BB4 m4 d4, .int .i64 v] 27)) := by (repeat (first | exact New.refl _ | assumption | refine New.alloc ?_ _ | refine New.drew ?_ | refine New.drewN ?_ _ | refine New.setCell ?_ (by first | omega | (simp; omega) | (simp; done)) _ | refine New.trans ?_ (by assumption)))
    have Bb := Lib.hid (Bb.out.new AU)
    have I1 := Lib.hid (I1.out.new AU)
    have J1 := Lib.hid (J1.out.new AU)
    have R4 := Lib.hid (R4.out.new AU)
    have Bd := Lib.hid (B3.laid w4 (.slice A4 n4 c4) (.slice BB4 m4 d4) (.int .i64 v) 27)
    have NBd := Lib.hid (N4.out.trans AU); clear AU
    obtain ⟨_, v4a, v4b, v4c, _, _, _⟩ := Bb.out
    obtain ⟨_, v5a, v5b, v5c, _, _, _⟩ := Bd.out
    have OD : Hid (rdOk v xs xs (i : Int) = true) := Lib.hid (rdOk_drop OV.out hi)
    go_wp2_with fail
    refine (ReadCell_any A4 n4 c4 BB4 m4 d4 v (xs) (xs) (i : Int) bn4 bm4 _ (R4.out.intsA LA4.out) (R4.out.intsB LB4.out)).mono ?_
    rw [OD.out, e0.out]
    rintro e w5 ⟨rfl, N5a⟩
    clear v3a v3b v3c v4a v4b v4c v5a v5b v5c
    have s5 : w4.heap.size + 1 ≤ w5.heap.size := by { have := N5a.le; simpa using this }
    have Bb := Lib.hid (Bb.out.new N5a)
    have Bd := Lib.hid (Bd.out.new N5a)
    have I1 := Lib.hid (I1.out.new N5a)
    have J1 := Lib.hid (J1.out.new N5a)
    have R4 := Lib.hid (R4.out.new N5a)
    have N5 := Lib.hid (NBd.out.trans N5a); clear N5a
    obtain ⟨_, v6a, v6b, v6c, _, _, _⟩ := Bb.out
    obtain ⟨_, v7a, v7b, v7c, _, _, _⟩ := Bd.out
    obtain ⟨b, off, hB, hb, hcc⟩ := I1.out.at_ (by omega)
    subst hB
    have gc := hcc i him
    rw [Hy.out] at gc
    clear hcc hb hok
    go_wp2
    go_ret
    exact ⟨rfl, N5.out⟩
end Go.Proofs.Ytopnegbaieflpaa
