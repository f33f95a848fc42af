/- The law FnHitBoxScreen, walked: a point hits nothing exactly if it is not on the screen. Condition: the code can be read. -/
import Derived.Test.YtokcbfnmnccacaaDrawHb
import Derived.Test.YtokcbfnmnccacaaHitP
import Derived.Test.YtokcbfnmnccacaaHitI
namespace Go.Proofs.Ytokcbfnmnccacaa
open Go.RowKit

set_option maxHeartbeats 4000000 in
theorem lawHitBoxScreen (A : Option Addr) (n c : Nat) (hn : n ≤ maxLen) (hnc : n ≤ c) (w : World) (hb : Bytes w A n) :
    Calls Try.prog 7 #[.slice A n c] w fun e w' => e = .returned (.bool true) ∧ New w w' := by
  have HB := Lib.hid hb; have HM := Lib.hid hn
  clear hb
  unfold maxLen at hn
  by_cases hbig : 1048576 < n
  · go_enter Try.func7, Try.ntmps7
    go_wp2
    go_ret
    exact ⟨rfl, by (repeat (first | exact New.refl _ | assumption | refine New.alloc ?_ _ | refine New.drew ?_ | refine New.drewN ?_ _ | refine New.setCell ?_ (by first | omega | (simp; omega) | (simp; done)) _ | refine New.trans ?_ (by assumption)))⟩
  have hm : (n : Int) ≤ 1048576 := by omega
  have hm0 : (0 : Int) ≤ (n : Int) := by omega
  go_enter Try.func7, Try.ntmps7
  go_wp2_with fail
  refine (DrawHitBox_any A n c HM.out hnc _ HB.out).mono ?_
  rintro e w1 ⟨B1, m1, d1, zs, W, H, x, y, rfl, I1, l1, kd, Wb, Hb, N1a⟩
  have s1 := N1a.le
  have N1 := Lib.hid ((New.refl w).trans N1a); clear N1a
  replace I1 := Lib.hid I1
  obtain ⟨z, HZ⟩ : ∃ z, Hid (hitA zs m1 W H x y = z) := ⟨_, Lib.hid rfl⟩
  obtain ⟨nq, LQ⟩ : ∃ nq, Hid ((flat4 (layA m1 zs W H)).length = nq * 4) := ⟨(layA m1 zs W H).length, Lib.hid (flat4_len _)⟩
  have nqa : nq = (layA m1 zs W H).length := by have h1 := LQ.out; rw [flat4_len] at h1; omega
  have nq16 : nq ≤ 16 := by rw [nqa]; exact layA_len
  have nqi : (nq : Int) ≤ 16 := by omega
  have nqj : (0 : Int) ≤ (nq : Int) := by omega
  go_wp2_with fail
  refine (HitBox_any B1 m1 d1 zs W H x y (by omega) _ I1.out).mono ?_
  rw [HZ.out]
  rintro e w2 ⟨rfl, N2a⟩
  have s2 := N2a.le
  have I1 := Lib.hid (I1.out.new N2a)
  have N2 := Lib.hid (N1.out.trans N2a); clear N2a
  go_wp2_with fail
  refine (SHitBox_any B1 m1 d1 zs W H x y (by omega) _ I1.out).mono ?_
  rw [HZ.out]
  rintro e w3 ⟨rfl, N3a⟩
  have s3 := N3a.le
  have I1 := Lib.hid (I1.out.new N3a)
  have N3 := Lib.hid (N2.out.trans N3a); clear N3a
  cases hv : layOk m1 zs W H
  · have h0 : nq = 0 := by rw [nqa, layA_no hv]; rfl
    subst h0
    clear hv nqa
    go_wp2_with fail
    refine (LayoutTree_ans B1 m1 d1 zs W H (by omega) _ I1.out).mono ?_
    rintro e w4 ⟨A4, n4, c4, rfl, l4, r4, N4a⟩
    have s4 := N4a.le
    have I1 := Lib.hid (I1.out.new N4a)
    have N4 := Lib.hid (N3.out.trans N4a); clear N4a
    obtain rfl : 0 = n4 := by have := LQ.out; omega
    have R4 := Lib.hid r4; clear l4 r4
    go_wp2_with fail
    refine (SHitBox_any B1 m1 d1 zs W H x y (by omega) _ I1.out).mono ?_
    rw [HZ.out]
    rintro e w5 ⟨rfl, N5a⟩
    have s5 := N5a.le
    have I1 := Lib.hid (I1.out.new N5a)
    have R4 := Lib.hid (R4.out.new N5a)
    have N5 := Lib.hid (N4.out.trans N5a); clear N5a
    go_wp2
    go_ret
    exact ⟨rfl, N5.out⟩
  · have hq : nq = m1 := by rw [nqa, layA_yes hv]; simp
    subst hq
    have SC := hit_screen (x := x) (y := y) hv
    rw [HZ.out] at SC
    have v1 := (vtB_iff.1 (layOk_iff.1 hv).1).1
    have nz0 : ((nq : Int) == 0) = false := by simp; omega
    clear hv nqa
    go_wp2_with fail
    refine (LayoutTree_ans B1 nq d1 zs W H (by omega) _ I1.out).mono ?_
    rintro e w4 ⟨A4, n4, c4, rfl, l4, r4, N4a⟩
    have s4 := N4a.le
    have I1 := Lib.hid (I1.out.new N4a)
    have N4 := Lib.hid (N3.out.trans N4a); clear N4a
    obtain rfl : nq = n4 := by have := LQ.out; omega
    have R4 := Lib.hid r4; clear l4 r4
    by_cases hs : 0 ≤ x ∧ x < W ∧ 0 ≤ y ∧ y < H
    · obtain ⟨h1, h2, h3, h4⟩ := hs
      have zn : ¬ z = -1 := fun h => (SC.1 h) ⟨h1, h2, h3, h4⟩
      have zb : (z == -1) = false := by simpa using zn
      clear SC
      go_wp2
      go_ret
      exact ⟨rfl, N4.out⟩
    · obtain rfl : z = -1 := SC.2 hs
      clear SC
      by_cases h1 : 0 ≤ x
      · by_cases h2 : x < W
        · by_cases h3 : 0 ≤ y
          · have h4 : ¬ y < H := fun h4 => hs ⟨h1, h2, h3, h4⟩
            clear hs
            go_wp2
            go_ret
            exact ⟨ret_bool (by simp; omega), N4.out⟩
          · clear hs
            go_wp2
            go_ret
            exact ⟨rfl, N4.out⟩
        · clear hs
          go_wp2
          go_ret
          exact ⟨rfl, N4.out⟩
      · clear hs
        go_wp2
        go_ret
        exact ⟨rfl, N4.out⟩
end Go.Proofs.Ytokcbfnmnccacaa
