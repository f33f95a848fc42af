/- Spans of tracks, in the reference, walked. Condition: the tracks can be read. -/
import Derived.Test.YtcoddhlfhmelkaaSpnM
import Derived.Test.YtcoddhlfhmelkaaTrkS
import Derived.Deep.Cut
import Derived.Deep.CutRange
namespace Go.Proofs.Ytcoddhlfhmelkaa
open Go.RowKit

set_option maxRecDepth 100000 in
set_option maxHeartbeats 4000000 in
theorem SSpanOf_any (A : Option Addr) (n c : Nat) (zs : List Int) (space gap f m : Int) (hn : n ≤ 1048576) (w : World) (hx : Sts 2 w A n zs) :
    Calls Try.prog 29 #[.slice A n c, .int .i64 space, .int .i64 gap, .int .i64 f, .int .i64 m] w fun e w' => e = .returned (.tuple #[.int .i64 (spA (tsA n zs space gap) gap f m), .int .i64 (spS (tsA n zs space gap) gap f m), .bool (spOk (tsA n zs space gap) f m)]) ∧ New w w' := by
  have CT := Lib.hid (fun W (hW : New w W) => STrackSizes_ansK A n c zs space gap hn W (hx.new hW))
  have GG := Lib.hid (fun (h : 0 < (tsA n zs space gap).length) => (tsOk_iff.1 (tsA_ok h)).2.2)
  have TB := Lib.hid (tsA_bd n zs space gap)
  have tl := tsA_len n zs space gap
  clear hx
  generalize tsA n zs space gap = xs at *
  have TL := Lib.hid tl
  have xl0 : (0 : Int) ≤ (xs.length : Int) := by omega
  have xl8 : (xs.length : Int) ≤ 8 := by omega
  have s1 : IntKind.i64.wrap ((xs.length : Int) - 1) = (xs.length : Int) - 1 := IntWalk.i64_in _ (by omega)
  clear tl
  cases h1 : decide (0 ≤ f ∧ f ≤ (xs.length : Int) - 1)
  · have e1 : spOk xs f m = false := by unfold spOk; rw [h1]; rfl
    have ea : spA xs gap f m = 0 := by unfold spA; rw [e1]; rfl
    have es : spS xs gap f m = 0 := by unfold spS; rw [e1]; rfl
    rw [e1, ea, es]
    clear e1 ea es
    go_enter Try.func29, Try.ntmps29
    go_wp2_with (first
      | (go_at_call 26; refine (CT.out _ (by (repeat (first | exact New.refl _ | assumption | refine New.alloc ?_ _ | refine New.drew ?_ | refine New.drewN ?_ _ | refine New.setCell ?_ (by first | omega | (simp; omega) | (simp; done)) _ | refine New.trans ?_ (by assumption))))).mono ?_; rintro e w1 ⟨A1, n1, c1, rfl, rfl, _, r1, N1⟩; have N1 := Lib.hid N1)
      | (go_at_call_of 43 f; refine (inRange_any _ _ _ _).mono ?_; rw [h1]; rintro e w' ⟨rfl, rfl⟩))
    go_returns
    exact ⟨rfl, N1.out⟩
  obtain ⟨f0, f1⟩ := of_decide_eq_true h1
  have s2 : IntKind.i64.wrap ((xs.length : Int) - f) = (xs.length : Int) - f := IntWalk.i64_in _ (by omega)
  cases h2 : decide (1 ≤ m ∧ m ≤ (xs.length : Int) - f)
  · have e1 : spOk xs f m = false := by unfold spOk; rw [h1, h2]; rfl
    have ea : spA xs gap f m = 0 := by unfold spA; rw [e1]; rfl
    have es : spS xs gap f m = 0 := by unfold spS; rw [e1]; rfl
    rw [e1, ea, es]
    clear e1 ea es
    go_enter Try.func29, Try.ntmps29
    go_wp2_with (first
      | (go_at_call 26; refine (CT.out _ (by (repeat (first | exact New.refl _ | assumption | refine New.alloc ?_ _ | refine New.drew ?_ | refine New.drewN ?_ _ | refine New.setCell ?_ (by first | omega | (simp; omega) | (simp; done)) _ | refine New.trans ?_ (by assumption))))).mono ?_; rintro e w1 ⟨A1, n1, c1, rfl, rfl, _, r1, N1⟩; have N1 := Lib.hid N1)
      | (go_at_call_of 43 m; refine (inRange_any _ _ _ _).mono ?_; rw [h2]; rintro e w' ⟨rfl, rfl⟩)
      | (go_at_call_of 43 f; refine (inRange_any _ _ _ _).mono ?_; rw [h1]; rintro e w' ⟨rfl, rfl⟩))
    go_returns
    exact ⟨rfl, N1.out⟩
  obtain ⟨m0, m1⟩ := of_decide_eq_true h2
  have hg := GG.out (by omega)
  have e1 : spOk xs f m = true := by unfold spOk; rw [h1, h2]; rfl
  have ea : spA xs gap f m = (xs.take f.toNat).sum + gap * f := by unfold spA; rw [e1]; rfl
  have es : spS xs gap f m = ((xs.drop f.toNat).take m.toNat).sum + gap * (m - 1) := by unfold spS; rw [e1]; rfl
  rw [e1, ea, es]
  obtain ⟨i, rfl⟩ := Int.eq_ofNat_of_zero_le f0
  obtain ⟨j, rfl⟩ := Int.eq_ofNat_of_zero_le (show 0 ≤ m by omega)
  have hj : (xs.take (i + j)).sum = (xs.take i).sum + ((xs.drop i).take j).sum := take_sum_add xs i j
  rw [Int.toNat_natCast, Int.toNat_natCast]
  have tn : ((i : Int) + (j : Int)).toNat = i + j := by omega
  have b1 := sum_bd2 TB.out i
  have b2 := sum_bd2 TB.out (i + j)
  have b3 := gapp_bd (g := gap) (n := (i : Int)) hg (by omega)
  have b4 := gapp_bd (g := gap) (n := (j : Int) - 1) hg (by omega)
  have b5 : -1000 ≤ ((xs.drop i).take j).sum ∧ ((xs.drop i).take j).sum ≤ 10000000 := by
    have h1 := sum_bd2 (xs := xs.drop i) (fun k => by
      have := TB.out (i + k)
      rw [List.getD_eq_getElem?_getD, List.getElem?_drop, ← List.getD_eq_getElem?_getD]
      exact this) j
    omega
  have SM : Hid (Sml xs) := Lib.hid (fun z hz => by
    obtain ⟨k, hk, rfl⟩ := List.getElem_of_mem hz
    have := TB.out k
    rw [show xs.getD k 0 = xs[k] by simp [hk]] at this
    omega)
  have S1 : Hid (∀ (A1 : Option Addr) (c1 : Nat) (W : World), Ints W A1 xs.length xs → Calls Try.prog 53 #[.slice A1 i c1] W fun e w' => e = .returned (.int .i64 ((xs.take i).sum)) ∧ W = w') := Lib.hid (fun A1 c1 W I1 => ssum_any A1 i c1 (xs.take i) (by have := TL.out; omega) W (I1.first (by omega)) (fun z hz => SM.out z (List.mem_of_mem_take hz)))
  have S2 : Hid (∀ (b off : Nat) (c1 : Nat) (W : World), Ints W (some ⟨b, off, none⟩) xs.length xs → Calls Try.prog 53 #[.slice (some ⟨b, off + i, none⟩) j c1] W fun e w' => e = .returned (.int .i64 (((xs.drop i).take j).sum)) ∧ W = w') := Lib.hid (fun b off c1 W I1 => ssum_any _ j c1 ((xs.drop i).take j) (by have := TL.out; omega) W (I1.part (by omega)) (fun z hz => SM.out z (List.mem_of_mem_drop (List.mem_of_mem_take hz))))
  obtain ⟨b10, b11⟩ := b1; obtain ⟨b30, b31⟩ := b3; obtain ⟨b40, b41⟩ := b4; obtain ⟨b50, b51⟩ := b5
  clear ea es hj e1 b2 GG TB SM
  generalize (xs.take i).sum = x at *
  generalize ((xs.drop i).take j).sum = y at *
  have xl := TL.out
  have i8 : i ≤ 8 := by omega
  have j8 : j ≤ 8 := by omega
  go_enter Try.func29, Try.ntmps29
  go_upto_region 4 with (first
    | (go_at_call 26; refine (CT.out _ (by (repeat (first | exact New.refl _ | assumption | refine New.alloc ?_ _ | refine New.drew ?_ | refine New.drewN ?_ _ | refine New.setCell ?_ (by first | omega | (simp; omega) | (simp; done)) _ | refine New.trans ?_ (by assumption))))).mono ?_; rintro e w1 ⟨A1, n1, c1, rfl, rfl, hc1, r1, N1⟩; have N1 := Lib.hid N1; have I1 := Lib.hid (r1.ints rfl); clear r1)
    | (go_at_call_of 43 (j : Int); refine (inRange_any _ _ _ _).mono ?_; rw [h2]; rintro e w' ⟨rfl, rfl⟩)
    | (go_at_call 43; refine (inRange_any _ _ _ _).mono ?_; rw [h1]; rintro e w' ⟨rfl, rfl⟩))
  obtain ⟨b, off, rfl, hb, hc⟩ := I1.out.at_ (by omega)
  have k1 : (i : Int) ≤ (c1 : Int) := by omega
  have k2 : (i : Int) + (j : Int) ≤ (c1 : Int) := by omega
  have k3 : (i : Int) ≤ (i : Int) + (j : Int) := by omega
  have k4 : i + j - i = j := by omega
  clear hc hb
  go_quiet ((first | (go_at_call 53; with_reducible exact Calls.quiet_of_same ((S1.out _ _ _ (I1.out.drewN _)).mono fun _ _ h => ⟨h.1, h.2.symm⟩)) | (go_at_call 53; with_reducible exact Calls.quiet_of_same ((S2.out _ _ _ _ (I1.out.drewN _)).mono fun _ _ h => ⟨h.1, h.2.symm⟩))))
  go_wp2
  exact bodyPost_ret (v := .tuple #[.int .i64 (x + gap * (i : Int)), .int .i64 (y + gap * ((j : Int) - 1)), .bool true]) (by simp [results, Try.results29, go_sem]) rfl ⟨rfl, N1.out.drewN nq⟩
end Go.Proofs.Ytcoddhlfhmelkaa
