/- Spans of tracks, in the program, walked. Condition: the tracks can be read. -/
import Derived.Test.YtcoddhlfhmelkaaSpnM
import Derived.Test.YtcoddhlfhmelkaaTrkI
namespace Go.Proofs.Ytcoddhlfhmelkaa
open Go.RowKit

set_option maxHeartbeats 2000000 in
theorem beginsOf_any (A : Option Addr) (n c : Nat) (xs : List Int) (gap : Int) (hn : n ≤ 8) (hg : 0 ≤ gap ∧ gap ≤ 50) (hb : ∀ i, 0 ≤ xs.getD i 0 ∧ xs.getD i 0 ≤ 210000) (w : World) (hx : Ints w A n xs) :
    Calls Try.prog 52 #[.slice A n c, .int .i64 gap] w fun e w' => ∃ g, e = .returned (.slice (some ⟨g, 0, none⟩) (n + 1) (n + 1)) ∧ w.heap.size ≤ g ∧ Row w' g (bgL xs gap) ∧ New w w' := by
  have lx := hx.len
  have HX := Lib.hid hx; have LX := Lib.hid lx
  have n0 : (0 : Int) ≤ (n : Int) := by omega
  have n8 : (n : Int) ≤ 8 := by omega
  have hmk : ∀ W, (Instr.makeSlice 23 (.int .i64 ((n : Int) + 1)) (.int .i64 ((n : Int) + 1))).run Try.prog W = .ok (.slice (some ⟨W.heap.size, 0, none⟩) (n + 1) (n + 1)) (W.alloc (.cells (madeCells #[.int .i64 0] (n + 1)) 3)) := fun W => by
    have h := run_make_row' (P := Try.prog) 23 3 (.int .i64 0) 8 Try.underlying23 (by kernel_rfl) rfl .i64 .i64 (n + 1) (by omega) (by omega) W
    rw [Int.natCast_add] at h
    exact h
  have BL := Lib.hid (bgL_len xs gap)
  have BD := Lib.hid (fun k (hk : k ≤ n) => bgL_bd (gap := gap) hb hg (k := k) (by omega) (by omega))
  have BS := Lib.hid (fun k (hk : k < n) => bgL_step xs gap k (by omega))
  have B0 : Hid ((bgL xs gap).getD 0 0 = 0) := Lib.hid (by rw [bgL_at _ _ _ (Nat.zero_le _)]; simp)
  have HB := Lib.hid hb
  obtain ⟨hg0, hg1⟩ := hg
  clear hx hb
  go_enter Try.func52, Try.ntmps52
  go_wp2
  have R0 := Lib.hid (Row.made w (n + 1) 3)
  have N0 : Hid (New w (w.alloc (.cells (madeCells #[.int .i64 0] (n + 1)) 3))) := Lib.hid (by (repeat (first | exact New.refl _ | assumption | refine New.alloc ?_ _ | refine New.drew ?_ | refine New.drewN ?_ _ | refine New.setCell ?_ (by first | omega | (simp; omega) | (simp; done)) _ | refine New.trans ?_ (by assumption))))
  generalize w.alloc (.cells (madeCells #[.int .i64 0] (n + 1)) 3) = w1 at *
  clear hmk
  go_loopw [14] (fun i wr => ∃ k : Nat, k ≤ n ∧ i = .int .i64 k ∧ Hid (Row wr w.heap.size (upTo (k + 1) (bgL xs gap))) ∧ Hid (New w wr)) (fun i _ => n - (intOf i).toNat)
  case atStart => exact ⟨0, Nat.zero_le _, rfl, Lib.hid (by rw [upTo_one _ B0.out, BL.out, LX.out]; exact R0.out), N0⟩
  case round =>
    obtain ⟨k, hk, rfl, HR, HN⟩ := hrel
    have k0 : (0 : Int) ≤ (k : Int) := by omega
    by_cases hlt : k < n
    · have k1 : (k : Int) < (n : Int) := by omega
      obtain ⟨b, off, rfl, hb, hc⟩ := HX.out.at_ (by omega)
      have g0 := (HN.out.cells b _ hb).trans (hc k hlt)
      have ll : (upTo (k + 1) (bgL xs gap)).length = n + 1 := by rw [upTo_len _ _ (by rw [BL.out, LX.out]; omega), BL.out, LX.out]
      have o1 := HR.out.c k (by omega)
      rw [upTo_old _ _ _ (by omega) (by rw [BL.out, LX.out]; omega)] at o1
      have o2 := HR.out.c (k + 1) (by omega)
      have f2 := HR.out.f (k + 1) (by omega)
      have st := HR.out.set_ (k := k + 1) (by omega) ((bgL xs gap).getD (k + 1) 0)
      rw [upTo_step (k + 1) (bgL xs gap) (by rw [BL.out, LX.out]; omega), BS.out k hlt] at st
      have ST := Lib.hid st
      obtain ⟨b0, b1⟩ := BD.out k hk
      obtain ⟨x0, x1⟩ := HB.out k
      have tn : ((k : Int) + 1).toNat = k + 1 := by omega
      clear hc ll st
      generalize (bgL xs gap).getD k 0 = x at *
      generalize xs.getD k 0 = y at *
      generalize (upTo (k + 1) (bgL xs gap)).getD (k + 1) 0 = z at o2
      go_wp2
      go_roundw
      case rel => exact ⟨k + 1, by omega, by go_num, ST, Lib.hid (HN.out.setCell (Nat.le_refl _) _)⟩
      case measure => simp [intOf]; omega
    · obtain rfl : k = n := by omega
      have RR : Hid (Row wr w.heap.size (bgL xs gap)) := Lib.hid (by have r := HR.out; rw [show k + 1 = (bgL xs gap).length by rw [BL.out, LX.out], upTo_all] at r; exact r)
      go_wp2
      go_ret
      exact ⟨_, rfl, Nat.le_refl _, RR.out, HN.out⟩
set_option maxRecDepth 100000 in
set_option maxHeartbeats 4000000 in
theorem SpanOf_any (A : Option Addr) (n c : Nat) (zs : List Int) (space gap f m : Int) (hn : n ≤ 1048576) (w : World) (hx : Sts 2 w A n zs) :
    Calls Try.prog 28 #[.slice A n c, .int .i64 space, .int .i64 gap, .int .i64 f, .int .i64 m] w fun e w' => e = .returned (.tuple #[.int .i64 (spA (tsA n zs space gap) gap f m), .int .i64 (spS (tsA n zs space gap) gap f m), .bool (spOk (tsA n zs space gap) f m)]) ∧ New w w' := by
  have CT := Lib.hid (fun W (hW : New w W) => TrackSizes_ans A n c zs space gap hn W (hx.new hW))
  have GG := Lib.hid (fun (h : 0 < (tsA n zs space gap).length) => (tsOk_iff.1 (tsA_ok h)).2.2)
  have TB := Lib.hid (tsA_bd n zs space gap)
  have tl := tsA_len n zs space gap
  clear hx
  generalize tsA n zs space gap = xs at *
  have TL := Lib.hid tl
  have xl0 : (0 : Int) ≤ (xs.length : Int) := by omega
  have xl8 : (xs.length : Int) ≤ 8 := by omega
  have s1 : IntKind.i64.wrap ((xs.length : Int) - 1) = (xs.length : Int) - 1 := IntWalk.i64_in _ (by omega)
  clear tl
  cases h1 : decide (0 ≤ f ∧ f ≤ (xs.length : Int) - 1)
  · have e1 : spOk xs f m = false := by unfold spOk; rw [h1]; rfl
    have ea : spA xs gap f m = 0 := by unfold spA; rw [e1]; rfl
    have es : spS xs gap f m = 0 := by unfold spS; rw [e1]; rfl
    rw [e1, ea, es]
    clear e1 ea es
    go_enter Try.func28, Try.ntmps28
    go_wp2_with (first
      | (go_at_call 25; refine (CT.out _ (by (repeat (first | exact New.refl _ | assumption | refine New.alloc ?_ _ | refine New.drew ?_ | refine New.drewN ?_ _ | refine New.setCell ?_ (by first | omega | (simp; omega) | (simp; done)) _ | refine New.trans ?_ (by assumption))))).mono ?_; rintro e w1 ⟨A1, n1, c1, rfl, rfl, r1, N1⟩; have N1 := Lib.hid N1)
      | (go_at_call_of 40 f; refine (within_any _ _ _ _).mono ?_; rw [h1]; rintro e w' ⟨rfl, rfl⟩))
    go_returns
    exact ⟨rfl, N1.out⟩
  obtain ⟨f0, f1⟩ := of_decide_eq_true h1
  have s2 : IntKind.i64.wrap ((xs.length : Int) - f) = (xs.length : Int) - f := IntWalk.i64_in _ (by omega)
  cases h2 : decide (1 ≤ m ∧ m ≤ (xs.length : Int) - f)
  · have e1 : spOk xs f m = false := by unfold spOk; rw [h1, h2]; rfl
    have ea : spA xs gap f m = 0 := by unfold spA; rw [e1]; rfl
    have es : spS xs gap f m = 0 := by unfold spS; rw [e1]; rfl
    rw [e1, ea, es]
    clear e1 ea es
    go_enter Try.func28, Try.ntmps28
    go_wp2_with (first
      | (go_at_call 25; refine (CT.out _ (by (repeat (first | exact New.refl _ | assumption | refine New.alloc ?_ _ | refine New.drew ?_ | refine New.drewN ?_ _ | refine New.setCell ?_ (by first | omega | (simp; omega) | (simp; done)) _ | refine New.trans ?_ (by assumption))))).mono ?_; rintro e w1 ⟨A1, n1, c1, rfl, rfl, r1, N1⟩; have N1 := Lib.hid N1)
      | (go_at_call_of 40 m; refine (within_any _ _ _ _).mono ?_; rw [h2]; rintro e w' ⟨rfl, rfl⟩)
      | (go_at_call_of 40 f; refine (within_any _ _ _ _).mono ?_; rw [h1]; rintro e w' ⟨rfl, rfl⟩))
    go_returns
    exact ⟨rfl, N1.out⟩
  obtain ⟨m0, m1⟩ := of_decide_eq_true h2
  have hg := GG.out (by omega)
  have e1 : spOk xs f m = true := by unfold spOk; rw [h1, h2]; rfl
  have ea : spA xs gap f m = (xs.take f.toNat).sum + gap * f := by unfold spA; rw [e1]; rfl
  have es : spS xs gap f m = ((xs.drop f.toNat).take m.toNat).sum + gap * (m - 1) := by unfold spS; rw [e1]; rfl
  rw [e1, ea, es]
  obtain ⟨i, rfl⟩ := Int.eq_ofNat_of_zero_le f0
  obtain ⟨j, rfl⟩ := Int.eq_ofNat_of_zero_le (show 0 ≤ m by omega)
  have hj : (xs.take (i + j)).sum = (xs.take i).sum + ((xs.drop i).take j).sum := take_sum_add xs i j
  rw [Int.toNat_natCast, Int.toNat_natCast]
  have tn : ((i : Int) + (j : Int)).toNat = i + j := by omega
  have b1 := bgL_bd (gap := gap) TB.out hg (k := i) (by omega) (by omega)
  have b2 := bgL_bd (gap := gap) TB.out hg (k := i + j) (by omega) (by omega)
  have ev1 := bgL_at xs gap i (by omega)
  have ev2 := bgL_at xs gap (i + j) (by omega)
  have dm : gap * ((i + j : Nat) : Int) = gap * (i : Int) + gap * (j : Int) := by rw [Int.natCast_add, Int.mul_add]
  have dm2 : gap * ((j : Int) - 1) = gap * (j : Int) - gap := by rw [Int.mul_sub, Int.mul_one]
  have E1 : Hid ((xs.take i).sum + gap * (i : Int) = (bgL xs gap).getD i 0) := Lib.hid ev1.symm
  have E2 : Hid (((xs.drop i).take j).sum + gap * ((j : Int) - 1) = (bgL xs gap).getD (i + j) 0 - gap - (bgL xs gap).getD i 0) := Lib.hid (by omega)
  rw [E1.out, E2.out]
  obtain ⟨b10, b11⟩ := b1; obtain ⟨b20, b21⟩ := b2
  have BL := Lib.hid (bgL_len xs gap)
  have HG := Lib.hid hg
  obtain ⟨hg0, hg1⟩ := hg
  have CB : Hid (∀ (A1 : Option Addr) (c1 : Nat) (W : World), Ints W A1 xs.length xs → Calls Try.prog 52 #[.slice A1 xs.length c1, .int .i64 gap] W fun e w' => ∃ g, e = .returned (.slice (some ⟨g, 0, none⟩) (xs.length + 1) (xs.length + 1)) ∧ w'.cell? ⟨g, i, none⟩ = some (.int .i64 ((bgL xs gap).getD i 0)) ∧ w'.cell? ⟨g, i + j, none⟩ = some (.int .i64 ((bgL xs gap).getD (i + j) 0)) ∧ New W w') := Lib.hid (fun A1 c1 W I1 => (beginsOf_any A1 xs.length c1 xs gap TL.out HG.out TB.out W I1).mono (by
    rintro e w2 ⟨g2, rfl, _, R2, N2⟩
    exact ⟨g2, rfl, R2.c i (by rw [BL.out]; omega), R2.c (i + j) (by rw [BL.out]; omega), N2⟩))
  clear ea es hj ev1 ev2 dm dm2 e1 E1 E2 BL HG GG TB
  generalize (bgL xs gap).getD i 0 = x at *
  generalize (bgL xs gap).getD (i + j) 0 = y at *
  go_enter Try.func28, Try.ntmps28
  go_wp2_with (first
    | (go_at_call 25; refine (CT.out _ (by (repeat (first | exact New.refl _ | assumption | refine New.alloc ?_ _ | refine New.drew ?_ | refine New.drewN ?_ _ | refine New.setCell ?_ (by first | omega | (simp; omega) | (simp; done)) _ | refine New.trans ?_ (by assumption))))).mono ?_; rintro e w1 ⟨A1, n1, c1, rfl, rfl, r1, N1⟩; have N1 := Lib.hid N1; have I1 := Lib.hid (r1.ints rfl); clear r1)
    | (go_at_call_of 40 (j : Int); refine (within_any _ _ _ _).mono ?_; rw [h2]; rintro e w' ⟨rfl, rfl⟩)
    | (go_at_call 40; refine (within_any _ _ _ _).mono ?_; rw [h1]; rintro e w' ⟨rfl, rfl⟩)
    | (go_at_call 52; refine (CB.out A1 c1 _ I1.out).mono ?_; rintro e w2 ⟨g2, rfl, o1, o2, N2⟩; have N3 := Lib.hid (N1.out.trans N2)))
  go_quiet (fail)
  go_wp2
  exact bodyPost_ret (v := .tuple #[.int .i64 x, .int .i64 (y - gap - x), .bool true]) (by simp [results, Try.results28, go_sem]) rfl ⟨rfl, N3.out.drewN nq⟩
end Go.Proofs.Ytcoddhlfhmelkaa
