/- The law FnValidBuffers, walked: exchanged buffers are valid as well. Condition: the code can be read. -/
import Derived.Test.YtopnegbaieflpaaBufP
import Derived.Test.YtopnegbaieflpaaBufQ
import Derived.Test.YtopnegbaieflpaaDrawC
namespace Go.Proofs.Ytopnegbaieflpaa
open Go.RowKit

set_option maxRecDepth 100000 in
set_option maxHeartbeats 4000000 in
theorem lawValidBuffers (A : Option Addr) (n c : Nat) (hn : n ≤ maxLen) (hnc : n ≤ c) (w : World) (hb : Bytes w A n) :
    Calls Try.prog 9 #[.slice A n c] w fun e w' => e = .returned (.bool true) ∧ New w w' := by
  have HB := Lib.hid hb; have HM := Lib.hid hn
  clear hb
  unfold maxLen at hn
  by_cases hbig : 1048576 < n
  · go_enter Try.func9, Try.ntmps9
    go_wp2
    go_ret
    exact ⟨rfl, by (repeat (first | exact New.refl _ | assumption | refine New.alloc ?_ _ | refine New.drew ?_ | refine New.drewN ?_ _ | refine New.setCell ?_ (by first | omega | (simp; omega) | (simp; done)) _ | refine New.trans ?_ (by assumption)))⟩
  have hm : (n : Int) ≤ 1048576 := by omega
  have hm0 : (0 : Int) ≤ (n : Int) := by omega
  go_enter Try.func9, Try.ntmps9
  go_wp2_with fail
  refine (DrawValidBuffers_any A n c HM.out hnc _ HB.out).mono ?_
  rintro e w1 ⟨B1, m1, d1, C1, k1, e1, v, xs, ys, rfl, I1, J1, b1, c1, N1a⟩
  have s1 : w.heap.size ≤ w1.heap.size := by { have := N1a.le; simpa using this }
  have N1 := Lib.hid ((New.refl w).trans N1a); clear N1a
  have LX := Lib.hid I1.len; have LY := Lib.hid J1.len; replace I1 := Lib.hid I1; replace J1 := Lib.hid J1
  have BX : Hid (xs.length ≤ 100) := Lib.hid (by have := LX.out; omega)
  have BY : Hid (ys.length ≤ 100) := Lib.hid (by have := LY.out; omega)
  have mi : (m1 : Int) ≤ 100 := by omega
  have mj : (0 : Int) ≤ (m1 : Int) := by omega
  have ki : (k1 : Int) ≤ 100 := by omega
  have kj : (0 : Int) ≤ (k1 : Int) := by omega
  have AU : New w1 (w1.alloc (.cells #[.slice B1 m1 d1, .slice C1 k1 e1, .int .i64 v] 27)) := by (repeat (first | exact New.refl _ | assumption | refine New.alloc ?_ _ | refine New.drew ?_ | refine New.drewN ?_ _ | refine New.setCell ?_ (by first | omega | (simp; omega) | (simp; done)) _ | refine New.trans ?_ (by assumption)))
  have I1 := Lib.hid (I1.out.new AU)
  have J1 := Lib.hid (J1.out.new AU)
  have Bb := Lib.hid (B3.laid w1 (.slice B1 m1 d1) (.slice C1 k1 e1) (.int .i64 v) 27)
  have NBb := Lib.hid (N1.out.trans AU); clear AU
  obtain ⟨_, v0a, v0b, v0c, _, _, _⟩ := Bb.out
  have E2 : Hid (okB v ys xs = okB v xs ys) := Lib.hid (okB_swap v xs ys)
  obtain ⟨ok, hok⟩ : ∃ ok, okB v xs ys = ok := ⟨_, rfl⟩
  have HO := Lib.hid hok; clear hok
  go_wp2_with fail
  refine (ValidBuffers_any B1 m1 d1 C1 k1 e1 v xs ys (by omega) (by omega) _ I1.out J1.out).mono ?_
  rw [HO.out]
  rintro e w2 ⟨rfl, N2a⟩
  clear v0a v0b v0c
  have s2 : w1.heap.size + 1 ≤ w2.heap.size := by { have := N2a.le; simpa using this }
  have Bb := Lib.hid (Bb.out.new N2a)
  have I1 := Lib.hid (I1.out.new N2a)
  have J1 := Lib.hid (J1.out.new N2a)
  have N2 := Lib.hid (NBb.out.trans N2a); clear N2a
  obtain ⟨_, v1a, v1b, v1c, _, _, _⟩ := Bb.out
  go_wp2_with fail
  refine (SpecValidBuffers_any B1 m1 d1 C1 k1 e1 v xs ys (by omega) (by omega) _ I1.out J1.out).mono ?_
  rw [HO.out]
  rintro e w3 ⟨rfl, N3a⟩
  clear v1a v1b v1c
  have s3 : w2.heap.size ≤ w3.heap.size := by { have := N3a.le; simpa using this }
  have Bb := Lib.hid (Bb.out.new N3a)
  have I1 := Lib.hid (I1.out.new N3a)
  have J1 := Lib.hid (J1.out.new N3a)
  have N3 := Lib.hid (N2.out.trans N3a); clear N3a
  obtain ⟨_, v2a, v2b, v2c, _, _, _⟩ := Bb.out
  go_wp2_with fail
  refine (ValidBuffers_any C1 k1 e1 B1 m1 d1 v ys xs (by omega) (by omega) _ J1.out I1.out).mono ?_
  rw [E2.out, HO.out]
  rintro e w4 ⟨rfl, N4a⟩
  clear v2a v2b v2c
  have s4 : w3.heap.size ≤ w4.heap.size := by { have := N4a.le; simpa using this }
  have Bb := Lib.hid (Bb.out.new N4a)
  have I1 := Lib.hid (I1.out.new N4a)
  have J1 := Lib.hid (J1.out.new N4a)
  have N4 := Lib.hid (N3.out.trans N4a); clear N4a
  obtain ⟨_, v3a, v3b, v3c, _, _, _⟩ := Bb.out
  go_wp2
  go_ret
  exact ⟨ret_bool (by simp), N4.out⟩
end Go.Proofs.Ytopnegbaieflpaa
