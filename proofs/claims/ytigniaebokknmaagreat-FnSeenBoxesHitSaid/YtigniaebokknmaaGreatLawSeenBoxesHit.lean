/- The law FnSeenBoxesHit, walked: a view of one point sees the box that the point hits. Condition: the code can be read. -/
import Derived.Test.YtigniaebokknmaaGreatDrawHb
import Derived.Test.YtigniaebokknmaaGreatSbP
import Derived.Test.YtigniaebokknmaaGreatHitI
import Derived.Test.YtigniaebokknmaaGreatSeenB
namespace Go.Proofs.YtigniaebokknmaaGreat
open Go.RowKit

set_option maxHeartbeats 4000000 in
theorem lawSeenBoxesHit (A : Option Addr) (n c : Nat) (hn : n ≤ maxLen) (hnc : n ≤ c) (w : World) (hb : Bytes w A n) :
    Calls Tryz.prog 3 #[.slice A n c] w fun e w' => e = .returned (.bool true) ∧ New w w' := by
  have HB := Lib.hid hb; have HM := Lib.hid hn
  clear hb
  unfold maxLen at hn
  by_cases hbig : 1048576 < n
  · go_enter Tryz.func3, Tryz.ntmps3
    go_wp2
    go_ret
    exact ⟨rfl, by (repeat (first | exact New.refl _ | assumption | refine New.alloc ?_ _ | refine New.drew ?_ | refine New.drewN ?_ _ | refine New.setCell ?_ (by first | omega | (simp; omega) | (simp; done)) _ | refine New.trans ?_ (by assumption)))⟩
  have hm : (n : Int) ≤ 1048576 := by omega
  have hm0 : (0 : Int) ≤ (n : Int) := by omega
  go_enter Tryz.func3, Tryz.ntmps3
  go_wp2_with fail
  refine (DrawHitBox_any A n c HM.out hnc _ HB.out).mono ?_
  rintro e w1 ⟨B1, m1, d1, zs, W, H, x, y, rfl, I1, l1, kd, Wb, Hb, N1a⟩
  have s1 := N1a.le
  have N1 := Lib.hid ((New.refl w).trans N1a); clear N1a
  replace I1 := Lib.hid I1
  obtain ⟨z, HZ⟩ : ∃ z, Hid (hitA zs m1 W H x y = z) := ⟨_, Lib.hid rfl⟩
  go_wp2_with fail
  refine (HitBox_any B1 m1 d1 zs W H x y (by omega) _ I1.out).mono ?_
  rw [HZ.out]
  rintro e w2 ⟨rfl, N2a⟩
  have s2 := N2a.le
  have I1 := Lib.hid (I1.out.new N2a)
  have N2 := Lib.hid (N1.out.trans N2a); clear N2a
  go_wp2_with fail
  refine (SHitBox_any B1 m1 d1 zs W H x y (by omega) _ I1.out).mono ?_
  rw [HZ.out]
  rintro e w3 ⟨rfl, N3a⟩
  have s3 := N3a.le
  have I1 := Lib.hid (I1.out.new N3a)
  have N3 := Lib.hid (N2.out.trans N3a); clear N3a
  by_cases hz : z < 0
  · skip
    go_wp2_with fail
    refine (SHitBox_any B1 m1 d1 zs W H x y (by omega) _ I1.out).mono ?_
    rw [HZ.out]
    rintro e w4 ⟨rfl, N4a⟩
    have s4 := N4a.le
    have I1 := Lib.hid (I1.out.new N4a)
    have N4 := Lib.hid (N3.out.trans N4a); clear N4a
    go_wp2
    go_ret
    exact ⟨rfl, N4.out⟩
  · obtain ⟨t, rfl⟩ : ∃ t : Nat, z = (t : Int) := ⟨z.toNat, by omega⟩
    have hv : layOk m1 zs W H = true := by
      cases h : layOk m1 zs W H
      · have := HZ.out; rw [hitA_no h] at this; omega
      · rfl
    have SH := Lib.hid (sb_hit hv HZ.out)
    obtain ⟨nz, LZ⟩ : ∃ nz, Hid ((sbA m1 zs W H x y 1 1).length = nz) := ⟨_, Lib.hid rfl⟩
    have nz16 : nz ≤ 16 := by have := LZ.out; have := sbA_len (n := m1) (zs := zs) (W := W) (H := H) (v0 := x) (v1 := y) (v2 := 1) (v3 := 1); omega
    clear hv
    go_wp2_with fail
    refine (SeenBoxes_ans B1 m1 d1 zs W H x y 1 1 (by omega) _ I1.out).mono ?_
    rintro e w4 ⟨A4, n4, c4, rfl, l4, r4, N4a⟩
    have s4 := N4a.le
    have I1 := Lib.hid (I1.out.new N4a)
    have N4 := Lib.hid (N3.out.trans N4a); clear N4a
    obtain rfl : nz = n4 := by have := LZ.out; omega
    have R4 := Lib.hid r4; clear l4 r4
    go_wp2_with (go_at_call 8; refine (isInL_any _ nz _ t _ (by omega) _ (R4.out.ints LZ.out)).mono ?_; rw [SH.out]; rintro e w' ⟨rfl, rfl⟩)
    go_ret
    exact ⟨rfl, N4.out⟩
end Go.Proofs.YtigniaebokknmaaGreat
