/- The drawn arguments of AutoPlaces and RowsUsed: a short list of small numbers, and a number of columns. Condition: the code can be read. -/
import Derived.Test.YtnipnemhbelcaaaSpoil
namespace Go.Proofs.Ytnipnemhbelcaaa
open Go.RowKit

/-- What drawing a list and a number leaves; the list is no longer than its room. -/
def DrawnLC (N : Nat) (w : World) (e : Ending) (w' : World) : Prop :=
  ∃ (B : Option Addr) (n c : Nat) (ys : List Int) (x : Int), e = .returned (.tuple #[.slice B n c, .int .i64 x]) ∧ Ints w' B n ys ∧ n ≤ N ∧ n ≤ c ∧ Sml ys ∧ (-10 ≤ x ∧ x ≤ 10) ∧ ((B = none ∧ n = 0) ∨ ∃ b off, B = some ⟨b, off, none⟩) ∧ New w w'
set_option maxHeartbeats 4000000 in
theorem DrawAutoPlaces_any (A : Option Addr) (n c : Nat) (hn : n ≤ maxLen) (hnc : n ≤ c) (w : World) (hb : Bytes w A n) :
    Calls Try.prog 21 #[.slice A n c] w (DrawnLC 14 w) := by
  have HB := Lib.hid hb
  clear hb
  have hmx := run_mx Try.prog
  have hmn := run_mn Try.prog
  go_enter Try.func21, Try.ntmps21
  go_wp2_with fail
  refine (newReader_any A n c hn hnc _ HB.out).mono ?_
  rintro e w1 ⟨rfl, ⟨m, hm, R1⟩, N1, z1⟩
  replace R1 := Lib.hid R1; replace N1 := Lib.hid N1
  go_wp2_with fail
  refine (one_any [3, 4, 2, 1, 8, 0, 9] (by simp) (by simp) w1.heap.size 7 w.heap.size A m 0 (by omega) hm _ (R1.out.new (by (repeat (first | exact New.refl _ | assumption | refine New.alloc ?_ _ | refine New.drew ?_ | refine New.drewN ?_ _ | refine New.setCell ?_ (by first | omega | (simp; omega) | (simp; done)) _ | refine New.trans ?_ (by assumption))))) (by omega) (by simp) (lit_at [3, 4, 2, 1, 8, 0, 9] _ _ _ rfl)).mono ?_
  rintro e w2 ⟨x, rfl, hx, R2, G2⟩
  have xb : 0 ≤ x ∧ x ≤ 9 := by simp at hx; omega
  have z2 := G2.size; simp at z2
  replace G2 := Lib.hid (only_trans (only_alloc only_refl _) G2); replace R2 := Lib.hid R2
  clear hx
  go_wp2_with fail
  refine (one_any [5, 7, 3, 1, 0, 12, 13] (by simp) (by simp) (w2.heap.size + 1) 7 w.heap.size A m (0 + 1) (by omega) hm _ (R2.out.new (by (repeat (first | exact New.refl _ | assumption | refine New.alloc ?_ _ | refine New.drew ?_ | refine New.drewN ?_ _ | refine New.setCell ?_ (by first | omega | (simp; omega) | (simp; done)) _ | refine New.trans ?_ (by assumption))))) (by omega) (by simp) (lit_at [5, 7, 3, 1, 0, 12, 13] (w2.alloc (.cells #[] 3)) 3 (w2.heap.size + 1) (by simp))).mono ?_
  rintro e w4 ⟨k, rfl, hk, R4, G4⟩
  have kb : 0 ≤ k ∧ k ≤ 13 := by
    simp at hk
    omega
  have z4 := G4.size; simp at z4
  have O4 := Lib.hid (((Own.empty (lo := w2.heap.size) w2 0 (Nat.le_refl _) rfl).alloc (.cells ([5, 7, 3, 1, 0, 12, 13].map (Value.int .i64)).toArray 3)).kept G4 (fun g e => by have := Option.some.inj e; omega))
  replace G4 := Lib.hid (only_trans (only_alloc (only_alloc G2.out _) _) G4); replace R4 := Lib.hid R4
  obtain ⟨j, rfl⟩ := Int.eq_ofNat_of_zero_le kb.1
  obtain ⟨x0, x9⟩ := xb
  have mb : 1 ≤ mx 1 (mn x 4) ∧ mx 1 (mn x 4) ≤ 4 := by unfold mx mn; omega
  obtain ⟨mb0, mb1⟩ := mb
  clear hk
  go_wp2
  go_loopw [6, 7] (fun v k wr => ∃ (i : Nat) (zs : List Int), i ≤ 13 ∧ k = .int .i64 i ∧ Hid (Own w2.heap.size wr v zs) ∧ zs.length + i ≤ 13 ∧ Hid (Sml zs) ∧ Hid (∃ q, q ≤ 2 + zs.length ∧ Rdr wr w.heap.size A m q) ∧ Hid (w1.grownBy wr (some w.heap.size)) ∧ w4.heap.size ≤ wr.heap.size) (fun _ k _ => (intOf k).toNat)
  case atStart => exact ⟨j, [], by omega, rfl, O4, by simp; omega, Lib.hid Sml.nil, Lib.hid ⟨0 + 1 + 1, by simp, R4.out⟩, G4, Nat.le_refl _⟩
  case round =>
    obtain ⟨i, zs, hi, rfl, HO, hl, HS, HR, HG, hz⟩ := hrel
    by_cases h0 : 0 < i
    · obtain ⟨q, hq, RR⟩ := HR.out
      replace RR := Lib.hid RR
      have hi0 : (0 : Int) < (i : Int) := by omega
      have hi9 : (i : Int) ≤ 13 := by omega
      go_wp2_with fail
      refine (pick_any _ w.heap.size A m q (by omega) hm _ RR.out).mono ?_
      rintro e w5 ⟨y, rfl, y0, y1, R5, G5⟩
      replace y1 := y1 (by omega)
      have z5 := G5.size
      have O5 := Lib.hid (HO.out.kept G5 (fun g e => by have := Option.some.inj e; omega))
      replace G5 := Lib.hid (only_trans HG.out G5); replace R5 := Lib.hid R5
      go_wp2_with (at_builtin; refine wp_app rfl _ _ rfl w2.heap.size _ zs rfl (O5.out.alloc _) (some ⟨w5.heap.size, 0, none⟩) 1 1 [1 + y] rfl (Ints.one w5 (1 + y) _) (by omega) (by simp; omega) ?_; intro v6 w6 O6 G6; (have z6 := G6.size); (simp at z6))
      have R6 := Lib.hid ((R5.out.new ((New.refl _).alloc _)).own G6 (O5.out.alloc _) (by omega))
      replace G6 := Lib.hid (only_own (only_alloc G5.out _) G6 (O5.out.alloc _) (by omega))
      replace O6 := Lib.hid O6
      go_wp2
      go_roundw
      case rel => exact ⟨i - 1, zs ++ [1 + y], by omega, by go_num, O6, by simp; omega, Lib.hid (HS.out.snoc (by omega)), Lib.hid ⟨q + 1, by simp; omega, R6.out⟩, G6, by omega⟩
      case measure => simp [intOf]; omega
    · obtain rfl : i = 0 := by omega
      obtain ⟨B, c0, rfl, _, Z⟩ := HO.out.res
      obtain ⟨q, hq, RR⟩ := HR.out
      have wlt : w.heap.size < wr.heap.size := by omega
      replace RR := Lib.hid RR
      have ZI := Lib.hid (Z.ints rfl)
      go_wp2_with fail
      refine (spoil_anyC 13 (by omega) B zs.length c0 zs 9 (by omega) (by omega) HS.out w.heap.size A m q (by omega) hm _ RR.out ZI.out).mono ?_
      rintro e w8 ⟨B8, n8, c8, ys, rfl, I8, l8, S8, ⟨q8, lq8, R8⟩, G8, h8, P8⟩
      have I9 := Lib.hid (I8 w8 (World.grownBy.refl _ _))
      have N9 := Lib.hid (new_only N1.out (Nat.le_refl _) (only_trans HG.out G8))
      replace S8 := Lib.hid S8; replace P8 := Lib.hid P8
      clear I8 R8 G8
      go_wp2
      refine bodyPost_ret (v := .tuple #[.slice B8 n8 c8, .int .i64 x]) (by simp [results, Try.results21, go_sem]) rfl ?_
      exact ⟨B8, n8, c8, ys, x, rfl, I9.out, l8, h8, S8.out, by omega, P8.out, N9.out⟩
end Go.Proofs.Ytnipnemhbelcaaa
