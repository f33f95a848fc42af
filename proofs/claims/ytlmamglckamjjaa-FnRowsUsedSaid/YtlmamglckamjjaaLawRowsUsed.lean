/- The law FnRowsUsed, walked: the rows are at most as many as the items, have room for them, and are as many with one column. Condition: the code can be read. -/
import Derived.Test.YtlmamglckamjjaaDrawAu
import Derived.Test.YtlmamglckamjjaaAutP
import Derived.Test.YtlmamglckamjjaaAutI
import Derived.Test.YtlmamglckamjjaaAutS
import Derived.Test.YtlmamglckamjjaaApp
namespace Go.Proofs.Ytlmamglckamjjaa
open Go.RowKit

set_option maxHeartbeats 4000000 in
theorem lawRowsUsed (A : Option Addr) (n c : Nat) (hn : n ≤ maxLen) (hnc : n ≤ c) (w : World) (hb : Bytes w A n) :
    Calls Try.prog 4 #[.slice A n c] w fun e w' => e = .returned (.bool true) ∧ New w w' := by
  have HB := Lib.hid hb; have HM := Lib.hid hn
  clear hb
  unfold maxLen at hn
  by_cases hbig : 1048576 < n
  · go_enter Try.func4, Try.ntmps4
    go_wp2
    go_ret
    exact ⟨rfl, by (repeat (first | exact New.refl _ | assumption | refine New.alloc ?_ _ | refine New.drew ?_ | refine New.drewN ?_ _ | refine New.setCell ?_ (by first | omega | (simp; omega) | (simp; done)) _ | refine New.trans ?_ (by assumption)))⟩
  have hm : (n : Int) ≤ 1048576 := by omega
  have hm0 : (0 : Int) ≤ (n : Int) := by omega
  go_enter Try.func4, Try.ntmps4
  go_wp2_with fail
  refine (DrawRowsUsed_any A n c HM.out hnc _ HB.out).mono ?_
  rintro e w1 ⟨B1, m1, d1, ws, cl, rfl, I1, l14, mc, S1, cb, PB, N1a⟩
  have s1 := N1a.le
  have N1 := Lib.hid ((New.refl w).trans N1a); clear N1a
  replace I1 := Lib.hid I1; replace S1 := Lib.hid S1
  obtain ⟨cb0, cb1⟩ := cb
  have y0 : (0 : Int) ≤ (m1 : Int) := by omega
  have y1 : (m1 : Int) ≤ 14 := by omega
  have LY := Lib.hid I1.out.len
  have C1 := Lib.hid (fun W (hW : New w1 W) => RowsUsed_any B1 m1 d1 ws cl (by omega) W (I1.out.new hW))
  have C2 := Lib.hid (fun W (hW : New w1 W) => SRowsUsed_any B1 m1 d1 ws cl (by omega) W (I1.out.new hW))
  cases hv : apOk ws cl
  · have er : ruA ws cl = -1 := if_neg (by rw [hv]; simp)
    simp only [er] at C1 C2
    clear hv er
    go_wp2_with fail
    refine (C1.out _ (New.refl _)).mono ?_
    rintro e w2 ⟨rfl, N2a⟩
    have NA := Lib.hid N2a
    have N2 := Lib.hid (N1.out.trans N2a); clear N2a
    go_wp2_with fail
    refine (C2.out _ NA.out).mono ?_
    rintro e w3 ⟨rfl, N3a⟩
    have NB := Lib.hid (NA.out.trans N3a)
    have N3 := Lib.hid (N2.out.trans N3a); clear N3a
    go_wp2_with fail
    refine (C2.out _ NB.out).mono ?_
    rintro e w4 ⟨rfl, N4a⟩
    have N4 := Lib.hid (N3.out.trans N4a); clear N4a
    go_wp2
    go_ret
    exact ⟨rfl, N4.out⟩
  have hsum := rows_sum (apOk_iff.1 hv).1.1 (apOk_iff.1 hv).2.2
  have rb := rowsN_le (apOk_iff.1 hv).1.1 (apOk_iff.1 hv).2.2 (n := ws.length) (Nat.le_refl _)
  have er : ruA ws cl = rowsN ws cl ws.length := if_pos hv
  rw [← er] at hsum
  rw [← er, LY.out] at rb
  obtain ⟨rb0, rb1⟩ := rb
  have c8 := (apOk_iff.1 hv).1
  have m12 : (m1 : Int) ≤ 12 := by have := (apOk_iff.1 hv).2.1; rw [LY.out] at this; exact this
  have ON := Lib.hid (ones_ru (n := m1) (by omega))
  have CS := Lib.hid (fun W (hW : New w1 W) => lsum_any B1 m1 d1 ws (by omega) W (I1.out.new hW) S1.out)
  have rc : 0 ≤ ruA ws cl * cl ∧ ruA ws cl * cl ≤ 96 := by
    refine ⟨Int.mul_nonneg rb0 (by omega), ?_⟩
    have h1 : ruA ws cl * cl ≤ ruA ws cl * 8 := Int.mul_le_mul_of_nonneg_left c8.2 rb0
    omega
  obtain ⟨rc0, rc1⟩ := rc
  generalize ruA ws cl = R at *
  have hd : decide (R ≤ (m1 : Int)) = true := decide_eq_true rb1
  have hd2 : decide (R * cl ≥ ws.sum) = true := decide_eq_true hsum
  clear hv er c8
  go_wp2_with fail
  refine (C1.out _ (New.refl _)).mono ?_
  rintro e w2 ⟨rfl, N2a⟩
  have NA := Lib.hid N2a
  have N2 := Lib.hid (N1.out.trans N2a); clear N2a
  go_wp2_with fail
  refine (C2.out _ NA.out).mono ?_
  rintro e w3 ⟨rfl, N3a⟩
  have NB := Lib.hid (NA.out.trans N3a)
  have N3 := Lib.hid (N2.out.trans N3a); clear N3a
  have E0 : Hid (Own w3.heap.size (w3.alloc (.cells #[] 3)) (.slice (some ⟨w3.heap.size, 0, none⟩) 0 0) (List.replicate 0 1)) := Lib.hid (Own.empty w3 0 (Nat.le_refl _) rfl)
  have NE : Hid (New w3 (w3.alloc (.cells #[] 3))) := Lib.hid ((New.refl _).alloc _)
  go_wp2
  go_loopw [6, 7] (fun v i wr => ∃ k : Nat, k ≤ m1 ∧ i = .int .i64 k ∧ Hid (Own w3.heap.size wr v (List.replicate k 1)) ∧ Hid (New w3 wr)) (fun _ i _ => m1 - (intOf i).toNat)
  case atStart => exact ⟨0, Nat.zero_le _, rfl, E0, NE⟩
  case round =>
    obtain ⟨k, hk, rfl, HO, HN⟩ := hrel
    have k0 : (0 : Int) ≤ (k : Int) := by omega
    obtain ⟨v, hv'⟩ : ∃ v, v = u6 := ⟨_, rfl⟩
    rw [← hv'] at HO ⊢
    clear hv'
    by_cases hlt : k < m1
    · have k1 : (k : Int) < (m1 : Int) := by omega
      go_wp2_with (at_builtin; refine wp_app rfl _ _ rfl w3.heap.size v _ rfl (HO.out.alloc _) (some ⟨wr.heap.size, 0, none⟩) 1 1 [1] rfl (Ints.one wr _ _) (by rw [List.length_replicate]; omega) (by simp; have := HN.out.le; omega) ?_; intro v6 w6 O6 G6; (have N6 := Lib.hid (new_own (HN.out.alloc _) G6 (HO.out.alloc _) (Nat.le_refl _))); (replace O6 := Lib.hid O6); clear G6)
      go_roundw
      case rel => exact ⟨k + 1, by omega, by go_num, Lib.hid (by rw [List.replicate_succ']; exact O6.out), N6⟩
      case measure => simp [intOf]; omega
    · obtain rfl : m1 = k := by omega
      obtain ⟨A6, c6, rfl, _, R6⟩ := HO.out.res
      have C3 := Lib.hid (RowsUsed_any A6 m1 c6 (List.replicate m1 1) 1 (by omega) wr (R6.ints (List.length_replicate)))
      rw [ON.out] at C3
      have l6 : (List.replicate m1 (1 : Int)).length = m1 := List.length_replicate
      rw [l6]
      have CS2 := Lib.hid (CS.out wr (NB.out.trans HN.out))
      have N4 := Lib.hid (N3.out.trans HN.out)
      clear HO R6 l6
      generalize ws.sum = S at *
      go_wp2_with (first
        | (go_at_call 23; refine CS2.out.mono ?_; rintro e w' ⟨rfl, rfl⟩)
        | (go_at_call 21; refine C3.out.mono ?_; rintro e w5 ⟨rfl, N5a⟩; have N5 := Lib.hid (N4.out.trans N5a); clear N5a))
      go_ret
      exact ⟨rfl, N5.out⟩
end Go.Proofs.Ytlmamglckamjjaa
