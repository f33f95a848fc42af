/- The drawn arguments of FlexSizes and LeftOver: flexible sizes and a space. Condition: the code can be read. -/
import Derived.Test.YtnipnemhbelcaaaDrawFl
namespace Go.Proofs.Ytnipnemhbelcaaa
open Go.RowKit

/-- What drawing flexible sizes and a space leaves. -/
def DrawnFlN (w : World) (e : Ending) (w' : World) : Prop :=
  ∃ (B : Option Addr) (n c : Nat) (ys : List Int) (x : Int), e = .returned (.tuple #[.slice B n c, .int .i64 x]) ∧ Sts 5 w' B n ys ∧ n ≤ c ∧ n ≤ 9 ∧ (∀ z ∈ ys, Tiny z) ∧ (-1000000000 ≤ x ∧ x ≤ 1000000000) ∧ New w w'
set_option maxHeartbeats 1000000 in
theorem DrawFlexSizes_any (A : Option Addr) (n c : Nat) (hn : n ≤ maxLen) (hnc : n ≤ c) (w : World) (hb : Bytes w A n) :
    Calls Try.prog 17 #[.slice A n c] w (DrawnFlN w) := by
  have HB := Lib.hid hb
  clear hb
  go_enter Try.func17, Try.ntmps17
  go_wp2_with fail
  refine (newReader_any A n c hn hnc _ HB.out).mono ?_
  rintro e w1 ⟨rfl, ⟨m, hm, R1⟩, N1, z1⟩
  replace R1 := Lib.hid R1; replace N1 := Lib.hid N1
  go_wp2_with fail
  refine (anyFlexes_any w.heap.size A m 0 (by omega) hm _ R1.out).mono ?_
  rintro e w2 ⟨B, k, c2, ys, rfl, l2, Z2, hkc, hk9, T2, ⟨q, hq, R2⟩, G2⟩
  have z2 := G2.size
  replace T2 := Lib.hid T2; replace R2 := Lib.hid R2; replace G2 := Lib.hid G2; replace Z2 := Lib.hid Z2
  go_wp2_with fail
  refine (someSpace_any w.heap.size A m q (by omega) hm _ R2.out).mono ?_
  rintro e w3 ⟨x, rfl, xb, _, G3⟩
  have S3 := Lib.hid (Sts.of_res (m := 4) (Z2.out.chg (Chg.of_grown G3 (Nat.le_refl _) (Nat.lt_succ_self _)) (by omega)) l2)
  have N3 := Lib.hid (new_only N1.out (Nat.le_refl _) (only_trans G2.out G3))
  replace xb := Lib.hid xb
  clear Z2 l2 G2 G3
  go_wp2
  refine bodyPost_ret (v := .tuple #[.slice B k c2, .int .i64 x]) (by simp [results, Try.results17, go_sem]) rfl ?_
  exact ⟨B, k, c2, ys, x, rfl, S3.out, hkc, hk9, T2.out, xb.out, N3.out⟩
end Go.Proofs.Ytnipnemhbelcaaa
