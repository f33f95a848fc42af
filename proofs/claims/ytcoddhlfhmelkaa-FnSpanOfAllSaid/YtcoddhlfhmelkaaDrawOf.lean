/- The drawn arguments of OffsetsOf: a short list of small numbers, a space, a gap, a way to justify. Condition: the code can be read. -/
import Derived.Test.YtcoddhlfhmelkaaSpoil
namespace Go.Proofs.Ytcoddhlfhmelkaa
open Go.RowKit

/-- What a drawn number leaves. -/
def DrawnI (s : Nat) (w : World) (a : Nat) (A : Option Addr) (m p : Nat) (e : Ending) (w' : World) : Prop :=
  ∃ z : Int, e = .returned (.int .i64 z) ∧ (-1000000000 ≤ z ∧ z ≤ 1000000000) ∧ (∃ q, q ≤ p + s ∧ Rdr w' a A m q) ∧ w.grownBy w' (some a)
set_option maxHeartbeats 1000000 in
theorem someSpace_any (a : Nat) (A : Option Addr) (m p : Nat) (hp : p ≤ 900000) (hm : m ≤ 2000) (w : World) (h : Rdr w a A m p) :
    Calls Try.prog 36 #[.pointer (some ⟨a, 0, none⟩)] w (DrawnI 2 w a A m p) := by
  have hlt : a < w.heap.size := World.block_lt_of_cell? w ⟨a, 1, none⟩ h.pos
  have HR := Lib.hid h
  clear h
  go_enter Try.func36, Try.ntmps36
  go_wp2_with fail
  refine (pick_any 250 a A m p (by omega) hm _ HR.out).mono ?_
  rintro e w2 ⟨k, rfl, k0, k1, R2, G2⟩
  have k1 := k1 (by omega)
  have z2 := G2.size
  replace R2 := Lib.hid R2; replace G2 := Lib.hid G2
  go_wp2_with fail
  refine (one_any [0, 100, 300, 1000, 50, 200000, 200001, -1, 5 * k, 700] (by simp) (by simp) w2.heap.size 10 a A m (p + 1) (by omega) hm _ (R2.out.new (by (repeat (first | exact New.refl _ | assumption | refine New.alloc ?_ _ | refine New.drew ?_ | refine New.drewN ?_ _ | refine New.setCell ?_ (by first | omega | (simp; omega) | (simp; done)) _ | refine New.trans ?_ (by assumption))))) (by omega) (by simp) (lit_cells [0, 100, 300, 1000, 50, 200000, 200001, -1, 5 * k, 700] _ _)).mono ?_
  rintro e w3 ⟨x, rfl, hx, R3, G3⟩
  have xb : -1000000000 ≤ x ∧ x ≤ 1000000000 := one_sml hx (by simp; omega)
  replace R3 := Lib.hid R3; replace G3 := Lib.hid (only_trans (only_alloc G2.out _) G3)
  clear hx
  go_wp2
  go_ret
  exact ⟨x, rfl, xb, ⟨p + 1 + 1, by omega, R3.out⟩, G3.out⟩
set_option maxHeartbeats 1000000 in
theorem someGap_any (a : Nat) (A : Option Addr) (m p : Nat) (hp : p ≤ 900000) (hm : m ≤ 2000) (w : World) (h : Rdr w a A m p) :
    Calls Try.prog 37 #[.pointer (some ⟨a, 0, none⟩)] w (DrawnI 1 w a A m p) := by
  have hlt : a < w.heap.size := World.block_lt_of_cell? w ⟨a, 1, none⟩ h.pos
  have HR := Lib.hid h
  clear h
  go_enter Try.func37, Try.ntmps37
  go_wp2_with fail
  refine (one_any [0, 1, 5, 10, 50, 51, -1, 2] (by simp) (by simp) w.heap.size 8 a A m p (by omega) hm _ (HR.out.new (by (repeat (first | exact New.refl _ | assumption | refine New.alloc ?_ _ | refine New.drew ?_ | refine New.drewN ?_ _ | refine New.setCell ?_ (by first | omega | (simp; omega) | (simp; done)) _ | refine New.trans ?_ (by assumption))))) (by omega) (by simp) (lit_cells [0, 1, 5, 10, 50, 51, -1, 2] _ _)).mono ?_
  rintro e w3 ⟨x, rfl, hx, R3, G3⟩
  have xb : -1000000000 ≤ x ∧ x ≤ 1000000000 := one_sml hx (by simp)
  replace R3 := Lib.hid R3; replace G3 := Lib.hid (only_trans (only_alloc only_refl _) G3)
  clear hx
  go_wp2
  go_ret
  exact ⟨x, rfl, xb, ⟨p + 1, by omega, R3.out⟩, G3.out⟩
/-- What drawing a list and three numbers leaves. -/
def DrawnLNNN (N : Nat) (w : World) (e : Ending) (w' : World) : Prop :=
  ∃ (B : Option Addr) (n c : Nat) (ys : List Int) (x y z : Int), e = .returned (.tuple #[.slice B n c, .int .i64 x, .int .i64 y, .int .i64 z]) ∧ Ints w' B n ys ∧ n ≤ N ∧ Sml ys ∧ (-1000000000 ≤ x ∧ x ≤ 1000000000) ∧ (-1000000000 ≤ y ∧ y ≤ 1000000000) ∧ (-1000000000 ≤ z ∧ z ≤ 1000000000) ∧ New w w'
set_option maxHeartbeats 4000000 in
theorem DrawOffsetsOf_any (A : Option Addr) (n c : Nat) (hn : n ≤ maxLen) (hnc : n ≤ c) (w : World) (hb : Bytes w A n) :
    Calls Try.prog 15 #[.slice A n c] w (DrawnLNNN 10 w) := by
  have HB := Lib.hid hb
  clear hb
  go_enter Try.func15, Try.ntmps15
  go_wp2_with fail
  refine (newReader_any A n c hn hnc _ HB.out).mono ?_
  rintro e w1 ⟨rfl, ⟨m, hm, R1⟩, N1, z1⟩
  replace R1 := Lib.hid R1; replace N1 := Lib.hid N1
  go_wp2_with fail
  refine (one_any [3, 2, 4, 1, 0, 8, 9] (by simp) (by simp) (w1.heap.size + 1) 7 w.heap.size A m 0 (by omega) hm _ (R1.out.new (by (repeat (first | exact New.refl _ | assumption | refine New.alloc ?_ _ | refine New.drew ?_ | refine New.drewN ?_ _ | refine New.setCell ?_ (by first | omega | (simp; omega) | (simp; done)) _ | refine New.trans ?_ (by assumption))))) (by omega) (by simp) (lit_at [3, 2, 4, 1, 0, 8, 9] (w1.alloc (.cells #[] 3)) 3 (w1.heap.size + 1) (by simp))).mono ?_
  rintro e w4 ⟨k, rfl, hk, R4, G4⟩
  have kb : 0 ≤ k ∧ k ≤ 9 := by
    simp at hk
    omega
  have z4 := G4.size; simp at z4
  have O4 := Lib.hid (((Own.empty (lo := w1.heap.size) w1 0 (Nat.le_refl _) rfl).alloc (.cells ([3, 2, 4, 1, 0, 8, 9].map (Value.int .i64)).toArray 3)).kept G4 (fun g e => by have := Option.some.inj e; omega))
  replace G4 := Lib.hid (only_trans (only_alloc (only_alloc only_refl _) _) G4); replace R4 := Lib.hid R4
  obtain ⟨j, rfl⟩ := Int.eq_ofNat_of_zero_le kb.1
  clear hk
  go_wp2
  go_loopw [7, 8] (fun v k wr => ∃ (i : Nat) (zs : List Int), i ≤ 9 ∧ k = .int .i64 i ∧ Hid (Own w1.heap.size wr v zs) ∧ zs.length + i ≤ 9 ∧ Hid (Sml zs) ∧ Hid (∃ q, q ≤ 1 + zs.length ∧ Rdr wr w.heap.size A m q) ∧ Hid (w1.grownBy wr (some w.heap.size)) ∧ w4.heap.size ≤ wr.heap.size) (fun _ k _ => (intOf k).toNat)
  case atStart => exact ⟨j, [], by omega, rfl, O4, by simp; omega, Lib.hid Sml.nil, Lib.hid ⟨0 + 1, by simp, R4.out⟩, G4, Nat.le_refl _⟩
  case round =>
    obtain ⟨i, zs, hi, rfl, HO, hl, HS, HR, HG, hz⟩ := hrel
    by_cases h0 : 0 < i
    · obtain ⟨q, hq, RR⟩ := HR.out
      replace RR := Lib.hid RR
      have hi0 : (0 : Int) < (i : Int) := by omega
      have hi9 : (i : Int) ≤ 9 := by omega
      go_wp2_with fail
      refine (one_any [10, 0, 25, 100, 7] (by simp) (by simp) wr.heap.size 5 w.heap.size A m q (by omega) hm _ (RR.out.new (by (repeat (first | exact New.refl _ | assumption | refine New.alloc ?_ _ | refine New.drew ?_ | refine New.drewN ?_ _ | refine New.setCell ?_ (by first | omega | (simp; omega) | (simp; done)) _ | refine New.trans ?_ (by assumption))))) (by omega) (by simp) (lit_at [10, 0, 25, 100, 7] _ _ _ rfl)).mono ?_
      rintro e w5 ⟨y, rfl, hy, R5, G5⟩
      have yb := one_sml hy (by simp)
      have z5 := G5.size; simp at z5
      have O5 := Lib.hid ((HO.out.alloc (.cells ([10, 0, 25, 100, 7].map (Value.int .i64)).toArray 3)).kept G5 (fun g e => by have := Option.some.inj e; omega))
      replace G5 := Lib.hid (only_trans (only_alloc HG.out _) G5); replace R5 := Lib.hid R5
      clear hy
      go_wp2_with (at_builtin; refine wp_app rfl _ _ rfl w1.heap.size _ zs rfl (O5.out.alloc _) (some ⟨w5.heap.size, 0, none⟩) 1 1 [y] rfl (Ints.one w5 y _) (by omega) (by simp; omega) ?_; intro v6 w6 O6 G6; (have z6 := G6.size); (simp at z6))
      have R6 := Lib.hid ((R5.out.new ((New.refl _).alloc _)).own G6 (O5.out.alloc _) (by omega))
      replace G6 := Lib.hid (only_own (only_alloc G5.out _) G6 (O5.out.alloc _) (by omega))
      replace O6 := Lib.hid O6
      go_wp2
      go_roundw
      case rel => exact ⟨i - 1, zs ++ [y], by omega, by go_num, O6, by simp; omega, Lib.hid (HS.out.snoc yb), Lib.hid ⟨q + 1, by simp; omega, R6.out⟩, G6, by omega⟩
      case measure => simp [intOf]; omega
    · obtain rfl : i = 0 := by omega
      obtain ⟨B, c0, rfl, _, Z⟩ := HO.out.res
      obtain ⟨q, hq, RR⟩ := HR.out
      have wlt : w.heap.size < wr.heap.size := by omega
      replace RR := Lib.hid RR
      have ZI := Lib.hid (Z.ints rfl)
      have OO := HO
      go_wp2_with fail
      refine (someSpace_any w.heap.size A m q (by omega) hm _ RR.out).mono ?_
      rintro e w6 ⟨x, rfl, xb, ⟨q6, l6, R6⟩, G6⟩
      have Z6 := Lib.hid (Z.chg (Chg.of_grown G6 (Nat.le_refl _) (Nat.lt_succ_self _)) (by omega))
      replace G6 := Lib.hid (only_trans HG.out G6); replace R6 := Lib.hid R6; replace xb := Lib.hid xb
      go_wp2_with fail
      refine (someGap_any w.heap.size A m q6 (by omega) hm _ R6.out).mono ?_
      rintro e w7 ⟨y, rfl, yb, ⟨q7, l7, R7⟩, G7⟩
      have I7 := Lib.hid ((Z6.out.chg (Chg.of_grown G7 (Nat.le_refl _) (Nat.lt_succ_self _)) (by omega)).ints rfl)
      replace G7 := Lib.hid (only_trans G6.out G7); replace R7 := Lib.hid R7; replace yb := Lib.hid yb
      go_wp2_with fail
      refine (spoil_any 9 (by omega) B zs.length c0 zs 10001 (by omega) (by omega) HS.out w.heap.size A m q7 (by omega) hm _ R7.out I7.out).mono ?_
      rintro e w8 ⟨B8, n8, c8, ys, rfl, I8, l8, S8, ⟨q8, lq8, R8⟩, G8⟩
      have z8 : w.heap.size < w8.heap.size := World.block_lt_of_cell? w8 ⟨w.heap.size, 1, none⟩ R8.pos
      replace I8 := Lib.hid I8; replace S8 := Lib.hid S8
      replace G8 := Lib.hid (only_trans G7.out G8); replace R8 := Lib.hid R8
      go_wp2_with fail
      refine (one_any [0, 1, 2, 3, 4, -1, 3] (by simp) (by simp) w8.heap.size 7 w.heap.size A m q8 (by omega) hm _ (R8.out.new (by (repeat (first | exact New.refl _ | assumption | refine New.alloc ?_ _ | refine New.drew ?_ | refine New.drewN ?_ _ | refine New.setCell ?_ (by first | omega | (simp; omega) | (simp; done)) _ | refine New.trans ?_ (by assumption))))) (by omega) (by simp) (lit_at [0, 1, 2, 3, 4, -1, 3] _ _ _ rfl)).mono ?_
      rintro e w9 ⟨z, rfl, hz9, R9, G9⟩
      have zb := Lib.hid (one_sml hz9 (by simp))
      have I9 := Lib.hid (I8.out w9 (only_trans (only_alloc only_refl _) G9))
      have N9 := Lib.hid (new_only N1.out (Nat.le_refl _) (only_trans (only_alloc G8.out _) G9))
      clear hz9 R9 G9
      go_wp2
      refine bodyPost_ret (v := .tuple #[.slice B8 n8 c8, .int .i64 x, .int .i64 y, .int .i64 z]) (by simp [results, Try.results15, go_sem]) rfl ?_
      exact ⟨B8, n8, c8, ys, x, y, z, rfl, I9.out, l8, S8.out, xb.out, yb.out, zb.out, N9.out⟩
end Go.Proofs.Ytcoddhlfhmelkaa
