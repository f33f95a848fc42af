/- The drawn arguments of ShareSpace: a space, and a short list of small numbers. Condition: the code can be read. -/
import Derived.Test.YtplgfifbahhpcaaSpoil
namespace Go.Proofs.Ytplgfifbahhpcaa
open Go.RowKit

/-- What drawing a number and a list leaves. -/
def DrawnNL (N : Nat) (w : World) (e : Ending) (w' : World) : Prop :=
  ∃ (x : Int) (B : Option Addr) (n c : Nat) (ys : List Int), e = .returned (.tuple #[.int .i64 x, .slice B n c]) ∧ (-1000000000 ≤ x ∧ x ≤ 1000000000) ∧ Ints w' B n ys ∧ n ≤ N ∧ Sml ys ∧ New w w'
set_option maxHeartbeats 4000000 in
theorem DrawShareSpace_any (A : Option Addr) (n c : Nat) (hn : n ≤ maxLen) (hnc : n ≤ c) (w : World) (hb : Bytes w A n) :
    Calls Try.prog 15 #[.slice A n c] w (DrawnNL 10 w) := by
  have HB := Lib.hid hb
  clear hb
  go_enter Try.func15, Try.ntmps15
  go_wp2_with fail
  refine (newReader_any A n c hn hnc _ HB.out).mono ?_
  rintro e w1 ⟨rfl, ⟨m, hm, R1⟩, N1, z1⟩
  have R1 := Lib.hid R1; have N1 := Lib.hid N1
  go_wp2_with fail
  refine (pick_any 250 _ A m 0 (by omega) hm _ R1.out).mono ?_
  rintro e w2 ⟨k, rfl, k0, k1, R2, G2⟩
  have k1 := k1 (by omega)
  have z2 := G2.size
  have R2 := Lib.hid R2; have G2 := Lib.hid G2
  go_wp2_with fail
  refine (one_any [0, 1, 100, 333, 200000, 200001, -1, 4 * k] (by simp) (by simp) w2.heap.size 8 w.heap.size A m (0 + 1) (by omega) hm _ (R2.out.new (by (repeat (first | exact New.refl _ | assumption | refine New.alloc ?_ _ | refine New.drew ?_ | refine New.drewN ?_ _ | refine New.setCell ?_ (by first | omega | (simp; omega) | (simp; done)) _ | refine New.trans ?_ (by assumption))))) (by omega) (by simp) (lit_cells [0, 1, 100, 333, 200000, 200001, -1, 4 * k] _ _)).mono ?_
  rintro e w3 ⟨x, rfl, hx, R3, G3⟩
  have xb : -1000000000 ≤ x ∧ x ≤ 1000000000 := one_sml hx (by simp; omega)
  have z3 := G3.size; simp at z3
  have R3 := Lib.hid R3; have G3 := Lib.hid (only_trans (only_alloc G2.out _) G3)
  clear hx
  go_wp2_with fail
  refine (one_any [3, 2, 4, 1, 0, 8, 9] (by simp) (by simp) (w3.heap.size + 1) 7 w.heap.size A m (0 + 1 + 1) (by omega) hm _ (R3.out.new (by (repeat (first | exact New.refl _ | assumption | refine New.alloc ?_ _ | refine New.drew ?_ | refine New.drewN ?_ _ | refine New.setCell ?_ (by first | omega | (simp; omega) | (simp; done)) _ | refine New.trans ?_ (by assumption))))) (by omega) (by simp) (lit_at [3, 2, 4, 1, 0, 8, 9] (w3.alloc (.cells #[] 3)) 3 (w3.heap.size + 1) (by simp))).mono ?_
  rintro e w4 ⟨k, rfl, hk, R4, G4⟩
  have kb : 0 ≤ k ∧ k ≤ 9 := by
    simp at hk
    omega
  have z4 := G4.size; simp at z4
  have O4 := Lib.hid (((Own.empty (lo := w3.heap.size) w3 0 (Nat.le_refl _) rfl).alloc (.cells ([3, 2, 4, 1, 0, 8, 9].map (Value.int .i64)).toArray 3)).kept G4 (fun g e => by have := Option.some.inj e; omega))
  have G4 := Lib.hid (only_trans (only_alloc (only_alloc G3.out _) _) G4); have R4 := Lib.hid R4
  obtain ⟨j, rfl⟩ := Int.eq_ofNat_of_zero_le kb.1
  have xb := Lib.hid xb
  clear hk
  go_wp2
  go_loopw [6, 7] (fun v k wr => ∃ (i : Nat) (zs : List Int), i ≤ 9 ∧ k = .int .i64 i ∧ Hid (Own w3.heap.size wr v zs) ∧ zs.length + i ≤ 9 ∧ Hid (Sml zs) ∧ Hid (∃ q, q ≤ 3 + zs.length ∧ Rdr wr w.heap.size A m q) ∧ Hid (w1.grownBy wr (some w.heap.size)) ∧ w4.heap.size ≤ wr.heap.size) (fun _ k _ => (intOf k).toNat)
  case atStart => exact ⟨j, [], by omega, rfl, O4, by simp; omega, Lib.hid Sml.nil, Lib.hid ⟨0 + 1 + 1 + 1, by simp, R4.out⟩, G4, Nat.le_refl _⟩
  case round =>
    obtain ⟨i, zs, hi, rfl, HO, hl, HS, HR, HG, hz⟩ := hrel
    by_cases h0 : 0 < i
    · obtain ⟨q, hq, RR⟩ := HR.out
      have RR := Lib.hid RR
      have hi0 : (0 : Int) < (i : Int) := by omega
      have hi9 : (i : Int) ≤ 9 := by omega
      go_wp2_with fail
      refine (one_any [1, 0, 2, 10, 333, 3] (by simp) (by simp) wr.heap.size 6 w.heap.size A m q (by omega) hm _ (RR.out.new (by (repeat (first | exact New.refl _ | assumption | refine New.alloc ?_ _ | refine New.drew ?_ | refine New.drewN ?_ _ | refine New.setCell ?_ (by first | omega | (simp; omega) | (simp; done)) _ | refine New.trans ?_ (by assumption))))) (by omega) (by simp) (lit_at [1, 0, 2, 10, 333, 3] _ _ _ rfl)).mono ?_
      rintro e w5 ⟨y, rfl, hy, R5, G5⟩
      have yb := one_sml hy (by simp)
      have z5 := G5.size; simp at z5
      have O5 := Lib.hid ((HO.out.alloc (.cells ([1, 0, 2, 10, 333, 3].map (Value.int .i64)).toArray 3)).kept G5 (fun g e => by have := Option.some.inj e; omega))
      have G5 := Lib.hid (only_trans (only_alloc HG.out _) G5); have R5 := Lib.hid R5
      clear hy
      go_wp2_with (at_builtin; refine wp_app rfl _ _ rfl w3.heap.size _ zs rfl (O5.out.alloc _) (some ⟨w5.heap.size, 0, none⟩) 1 1 [y] rfl (Ints.one w5 y _) (by omega) (by simp; omega) ?_; intro v6 w6 O6 G6; (have z6 := G6.size); (simp at z6))
      have R6 := Lib.hid ((R5.out.new ((New.refl _).alloc _)).own G6 (O5.out.alloc _) (by omega))
      have G6 := Lib.hid (only_own (only_alloc G5.out _) G6 (O5.out.alloc _) (by omega))
      have O6 := Lib.hid O6
      go_wp2
      go_roundw
      case rel => exact ⟨i - 1, zs ++ [y], by omega, by go_num, O6, by simp; omega, Lib.hid (HS.out.snoc yb), Lib.hid ⟨q + 1, by simp; omega, R6.out⟩, G6, by omega⟩
      case measure => simp [intOf]; omega
    · obtain rfl : i = 0 := by omega
      obtain ⟨B, c0, rfl, _, Z⟩ := HO.out.res
      obtain ⟨q, hq, RR⟩ := HR.out
      have RR := Lib.hid RR; have Z := Lib.hid (Z.ints rfl)
      have ZL := zs.length
      go_wp2_with fail
      refine (spoil_any 9 (by omega) B zs.length c0 zs 200001 (by omega) (by omega) HS.out w.heap.size A m q (by omega) hm _ RR.out Z.out).mono ?_
      rintro e w7 ⟨B7, n7, c7, ys, rfl, I7, l7, S7, ⟨q7, _, R7⟩, G7⟩
      have I7 := I7 _ only_refl
      have N7 := new_only N1.out (Nat.le_refl _) (only_trans HG.out G7)
      have I7 := Lib.hid I7; have S7 := Lib.hid S7; have N7 := Lib.hid N7
      go_wp2
      go_ret2
      exact ⟨x, B7, n7, c7, ys, rfl, xb.out, I7.out, l7, S7.out, N7.out⟩
end Go.Proofs.Ytplgfifbahhpcaa
