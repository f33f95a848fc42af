/- Drawn parts of lines with a width and a gap. Condition: the code can be read. -/
import Derived.Test.YtpkajdnndognnaaDrawPr
import Derived.Test.YtpkajdnndognnaaDrawSd
namespace Go.Proofs.Ytpkajdnndognnaa
open Go.RowKit

/-- What drawing parts, a width and a gap leaves. -/
def DrawnPrNN (w : World) (e : Ending) (w' : World) : Prop :=
  ∃ (B : Option Addr) (n c : Nat) (ys : List Int) (x y : Int), e = .returned (.tuple #[.slice B n c, .int .i64 x, .int .i64 y]) ∧ Sts 2 w' B n ys ∧ n ≤ c ∧ n ≤ 13 ∧ (∀ z ∈ ys, Tiny2 z) ∧ (-1 ≤ x ∧ x ≤ 10001) ∧ (-1000000000 ≤ y ∧ y ≤ 1000000000) ∧ New w w'
set_option maxHeartbeats 2000000 in
theorem DrawLineCounts_any (A : Option Addr) (n c : Nat) (hn : n ≤ maxLen) (hnc : n ≤ c) (w : World) (hb : Bytes w A n) :
    Calls Try.prog 47 #[.slice A n c] w (DrawnPrNN w) := by
  have HB := Lib.hid hb
  clear hb
  go_enter Try.func47, Try.ntmps47
  go_wp2_with fail
  refine (newReader_any A n c hn hnc _ HB.out).mono ?_
  rintro e w1 ⟨rfl, ⟨m, hm, R1⟩, N1, z1⟩
  replace R1 := Lib.hid R1; replace N1 := Lib.hid N1
  go_wp2_with fail
  refine (anyParts_any w.heap.size A m 0 (by omega) hm _ R1.out).mono ?_
  rintro e w2 ⟨B, k, c2, ys, rfl, l2, Z2, hkc, hk9, T2, ⟨q, hq, R2⟩, G2⟩
  have z2 := G2.size
  replace T2 := Lib.hid T2; replace R2 := Lib.hid R2; replace G2 := Lib.hid G2; replace Z2 := Lib.hid Z2
  go_wp2_with fail
  refine (someSide_any w.heap.size A m q (by omega) hm _ R2.out).mono ?_
  rintro e w3 ⟨x, rfl, xb, R3, G3⟩
  have Z3 := Lib.hid (Z2.out.chg (Chg.of_grown G3 (Nat.le_refl _) (Nat.lt_succ_self _)) (by omega))
  have z3 := G3.size
  replace G3 := Lib.hid (only_trans G2.out G3); replace R3 := Lib.hid R3; replace xb := Lib.hid xb
  go_wp2_with fail
  refine (someGap_any w.heap.size A m (q + 1) (by omega) hm _ R3.out).mono ?_
  rintro e w4 ⟨y, rfl, yb, ⟨q4, hq4, R4⟩, G4⟩
  have Z4 := Lib.hid (Z3.out.chg (Chg.of_grown G4 (Nat.le_refl _) (Nat.lt_succ_self _)) (by omega))
  have z4 := G4.size
  replace G4 := Lib.hid (only_trans G3.out G4); replace R4 := Lib.hid R4; replace yb := Lib.hid yb
  have S4 := Lib.hid (Sts.of_res (m := 1) Z4.out l2)
  have N4 := Lib.hid (new_only N1.out (Nat.le_refl _) G4.out)
  go_wp2
  refine bodyPost_ret (v := .tuple #[.slice B k c2, .int .i64 x, .int .i64 y]) (by simp [results, Try.results47, go_sem]) rfl ?_
  exact ⟨B, k, c2, ys, x, y, rfl, S4.out, hkc, hk9, T2.out, xb.out, yb.out, N4.out⟩
set_option maxHeartbeats 1000000 in
theorem DrawLineHeights_any (A : Option Addr) (n c : Nat) (hn : n ≤ maxLen) (hnc : n ≤ c) (w : World) (hb : Bytes w A n) :
    Calls Try.prog 21 #[.slice A n c] w (DrawnPrNN w) := by
  have HB := Lib.hid hb
  clear hb
  go_enter Try.func21, Try.ntmps21
  go_wp2_with fail
  refine (DrawLineCounts_any A n c hn hnc _ HB.out).mono ?_
  rintro e w1 ⟨B, k, c2, ys, x, y, rfl, S4, hkc, hk9, T2, xb, yb, N4⟩
  replace S4 := Lib.hid S4; replace T2 := Lib.hid T2; replace N4 := Lib.hid N4; replace xb := Lib.hid xb; replace yb := Lib.hid yb
  go_wp2
  refine bodyPost_ret (v := .tuple #[.slice B k c2, .int .i64 x, .int .i64 y]) (by simp [results, Try.results21, go_sem]) rfl ?_
  exact ⟨B, k, c2, ys, x, y, rfl, S4.out, hkc, hk9, T2.out, xb.out, yb.out, N4.out⟩
set_option maxHeartbeats 1000000 in
theorem DrawWrapParts_any (A : Option Addr) (n c : Nat) (hn : n ≤ maxLen) (hnc : n ≤ c) (w : World) (hb : Bytes w A n) :
    Calls Try.prog 27 #[.slice A n c] w (DrawnPrNN w) := by
  have HB := Lib.hid hb
  clear hb
  go_enter Try.func27, Try.ntmps27
  go_wp2_with fail
  refine (DrawLineCounts_any A n c hn hnc _ HB.out).mono ?_
  rintro e w1 ⟨B, k, c2, ys, x, y, rfl, S4, hkc, hk9, T2, xb, yb, N4⟩
  replace S4 := Lib.hid S4; replace T2 := Lib.hid T2; replace N4 := Lib.hid N4; replace xb := Lib.hid xb; replace yb := Lib.hid yb
  go_wp2
  refine bodyPost_ret (v := .tuple #[.slice B k c2, .int .i64 x, .int .i64 y]) (by simp [results, Try.results27, go_sem]) rfl ?_
  exact ⟨B, k, c2, ys, x, y, rfl, S4.out, hkc, hk9, T2.out, xb.out, yb.out, N4.out⟩
set_option maxHeartbeats 1000000 in
theorem DrawWrapHeight_any (A : Option Addr) (n c : Nat) (hn : n ≤ maxLen) (hnc : n ≤ c) (w : World) (hb : Bytes w A n) :
    Calls Try.prog 30 #[.slice A n c] w (DrawnPrNN w) := by
  have HB := Lib.hid hb
  clear hb
  go_enter Try.func30, Try.ntmps30
  go_wp2_with fail
  refine (DrawLineCounts_any A n c hn hnc _ HB.out).mono ?_
  rintro e w1 ⟨B, k, c2, ys, x, y, rfl, S4, hkc, hk9, T2, xb, yb, N4⟩
  replace S4 := Lib.hid S4; replace T2 := Lib.hid T2; replace N4 := Lib.hid N4; replace xb := Lib.hid xb; replace yb := Lib.hid yb
  go_wp2
  refine bodyPost_ret (v := .tuple #[.slice B k c2, .int .i64 x, .int .i64 y]) (by simp [results, Try.results30, go_sem]) rfl ?_
  exact ⟨B, k, c2, ys, x, y, rfl, S4.out, hkc, hk9, T2.out, xb.out, yb.out, N4.out⟩
end Go.Proofs.Ytpkajdnndognnaa
