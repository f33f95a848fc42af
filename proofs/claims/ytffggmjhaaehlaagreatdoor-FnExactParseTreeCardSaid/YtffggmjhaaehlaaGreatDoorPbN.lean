/- numberOf and kindOf of the program. Condition: what the library wants to find lies there. -/
import Derived.Test.YtffggmjhaaehlaaGreatDoorPbW
import Derived.Test.YtffggmjhaaehlaaGreatDoorPbB
import Derived.Lib.AtoiErrMem
namespace Go.Proofs.YtffggmjhaaehlaaGreatDoor
open Go.RowKit

theorem atoi_any (l : List UInt8) (hl : l.length ≤ 5) (w : World) (h : LibC w) : Calls Tryz.prog 85 #[str l] w fun e w' => New w w' ∧
    ((∃ v : Int, Lib.atoiAll l = .ok v ∧ e = .returned (.tuple #[.int .i64 v, .nilIface])) ∨ ((∀ v, Lib.atoiAll l ≠ .ok v) ∧ ∃ (n : Int) (N : Nat), e = .returned (.tuple #[.int .i64 n, .iface 146 (.pointer (some ⟨N, 0, none⟩))]))) := by
  have hs : (⟨l.toArray⟩ : ByteArray).size = l.length := by simp [ByteArray.size]
  have hd : (⟨l.toArray⟩ : ByteArray).data.toList = l := by simp
  cases hA : Lib.atoiAll l with
  | ok v =>
    refine (Shf.strconv_Atoi_ok ⟨l.toArray⟩ (by rw [hs]; omega) v (by rw [hd]; exact hA) w).mono fun e w' ⟨he, hw⟩ => ⟨?_, Or.inl ⟨v, rfl, he⟩⟩
    rcases hw with rfl | ⟨t, rfl⟩
    · exact New.refl _
    · exact Lib.bytesWorld_below _ _ _
  | «syntax» =>
    obtain ⟨ev, c, k⟩ := h.syn
    exact (Shf.strconv_Atoi_syntax ⟨l.toArray⟩ (by rw [hs]; omega) (by rw [hd]; exact hA) ev w c k).mono fun e w' ⟨N, he, _, _, hB⟩ => ⟨hB, Or.inr ⟨fun v hv => by (cases hv), _, N, he⟩⟩
  | range =>
    obtain ⟨ev, c, k⟩ := h.ran
    exact (Shf.strconv_Atoi_range ⟨l.toArray⟩ (by rw [hs]; omega) (by rw [hd]; exact hA) ev w c k).mono fun e w' ⟨N, he, _, _, hB⟩ => ⟨hB, Or.inr ⟨fun v hv => by (cases hv), _, N, he⟩⟩
set_option maxRecDepth 100000 in
theorem numberOf_any (l : List UInt8) (hl : l.length ≤ 2000000) (w : World) (h : LibC w) : Calls Tryz.prog 70 #[str l] w fun e w' => e = .returned (.int .i64 (numT l)) ∧ New w w' := by
  have H := Lib.hid h
  clear h
  by_cases h5 : 5 < l.length
  · have E := Lib.hid (numT_long h5)
    have h5i : (5 : Int) < (l.length : Int) := by omega
    go_enter Tryz.func70, Tryz.ntmps70
    go_wp2
    go_ret
    exact ⟨by rw [E.out]; rfl, by (repeat (first | exact New.refl _ | assumption | refine New.alloc ?_ _ | refine New.drew ?_ | refine New.drewN ?_ _ | refine New.setCell ?_ (by first | omega | (simp; omega) | (simp; done)) _ | refine New.trans ?_ (by assumption)))⟩
  have h5i : ¬ (5 : Int) < (l.length : Int) := by omega
  have HL := Lib.hid (show l.length ≤ 5 by omega)
  go_enter Tryz.func70, Tryz.ntmps70
  go_wp2_with fail
  refine (atoi_any l HL.out _ H.out).mono ?_
  rintro e w1 ⟨N1, ⟨v, hv, rfl⟩ | ⟨hno, n, N, rfl⟩⟩
  · have NN := Lib.hid N1
    have HW := Lib.hid (H.out.new N1)
    by_cases v0 : v < 0
    · have E : Hid (numT l = -1) := Lib.hid (by
        by_cases k : numT l = -1
        · exact k
        · obtain ⟨u, _, _, hu, _⟩ := numT_atoi k
          rw [hv] at hu
          injection hu with hu
          omega)
      clear hv N1
      go_wp2
      go_ret
      exact ⟨by rw [E.out]; rfl, NN.out⟩
    · have hvb := Lib.atoiAll_bounds hv
      obtain ⟨u, rfl⟩ : ∃ u : Nat, v = (u : Int) := ⟨v.toNat, by omega⟩
      have IT := Lib.hid (fun W (hW : New w1 W) => itoaN (HW.out.new hW) u (by omega))
      have v1 : decide ((u : Int) < 0) = false := decide_eq_false v0
      by_cases he : Lib.decDigits u = l
      · have E := Lib.hid (numT_of HL.out he)
        have EQ : (Lib.decDigits u == l) = true := by simp [he]
        clear hv hvb N1 he
        go_wp2_with fail
        refine (IT.out _ (by (repeat (first | exact New.refl _ | assumption | refine New.alloc ?_ _ | refine New.drew ?_ | refine New.drewN ?_ _ | refine New.setCell ?_ (by first | omega | (simp; omega) | (simp; done)) _ | refine New.trans ?_ (by assumption))))).mono ?_
        rintro e w2 ⟨rfl, N2⟩
        have N2 := Lib.hid (NN.out.trans N2)
        go_wp2
        go_ret
        exact ⟨by rw [E.out]; rfl, N2.out⟩
      · have E : Hid (numT l = -1) := Lib.hid (by
          by_cases k : numT l = -1
          · exact k
          · obtain ⟨u', _, hd, hu, _⟩ := numT_atoi k
            rw [hv] at hu
            injection hu with hu
            have : u = u' := by omega
            subst this
            exact absurd hd he)
        have EQ : (Lib.decDigits u == l) = false := by simp [he]
        clear hv hvb N1 he
        go_wp2_with fail
        refine (IT.out _ (by (repeat (first | exact New.refl _ | assumption | refine New.alloc ?_ _ | refine New.drew ?_ | refine New.drewN ?_ _ | refine New.setCell ?_ (by first | omega | (simp; omega) | (simp; done)) _ | refine New.trans ?_ (by assumption))))).mono ?_
        rintro e w2 ⟨rfl, N2⟩
        have N2 := Lib.hid (NN.out.trans N2)
        go_wp2
        go_ret
        exact ⟨by rw [E.out]; rfl, N2.out⟩
  · have NN := Lib.hid N1
    have E : Hid (numT l = -1) := Lib.hid (by
      by_cases k : numT l = -1
      · exact k
      · obtain ⟨u, _, _, hu, _⟩ := numT_atoi k
        exact absurd hu (hno _))
    clear hno N1
    go_wp2
    go_ret
    exact ⟨by rw [E.out]; rfl, NN.out⟩
set_option maxRecDepth 100000 in
theorem kindOf_any (l : List UInt8) (w : World) (h : LibC w) : Calls Tryz.prog 69 #[str l] w fun e w' => e = .returned (.int .i64 (kindT l)) ∧ New w w' := by
  have k0 := h.kn.2 0 (by omega); have k1 := h.kn.2 1 (by omega); have k2 := h.kn.2 2 (by omega); have k3 := h.kn.2 3 (by omega)
  clear h
  have X0 : ∀ W, (Instr.index 88 (.agg #[str (kn 0), str (kn 1), str (kn 2), str (kn 3)]) (.int .i64 0)).run Tryz.prog W = .ok (str (kn 0)) W := fun W => by kernel_rfl
  have X1 : ∀ W, (Instr.index 88 (.agg #[str (kn 0), str (kn 1), str (kn 2), str (kn 3)]) (.int .i64 1)).run Tryz.prog W = .ok (str (kn 1)) W := fun W => by kernel_rfl
  have X2 : ∀ W, (Instr.index 88 (.agg #[str (kn 0), str (kn 1), str (kn 2), str (kn 3)]) (.int .i64 2)).run Tryz.prog W = .ok (str (kn 2)) W := fun W => by kernel_rfl
  have X3 : ∀ W, (Instr.index 88 (.agg #[str (kn 0), str (kn 1), str (kn 2), str (kn 3)]) (.int .i64 3)).run Tryz.prog W = .ok (str (kn 3)) W := fun W => by kernel_rfl
  go_enter Tryz.func69, Tryz.ntmps69
  go_wp2
  go_loopw [3, 4, 6] (fun _ _ i wr => ∃ k : Nat, k ≤ 4 ∧ i = .int .i64 (k : Int) ∧ wr = w ∧ Hid (∀ j, j < k → kn j ≠ l)) (fun _ _ i _ => 4 - (intOf i).toNat)
  case atStart => exact ⟨0, by omega, rfl, rfl, Lib.hid (fun j hj => absurd hj (by omega))⟩
  case round =>
    obtain ⟨k, hk, rfl, rfl, HN⟩ := hrel
    by_cases h4 : k < 4
    · by_cases he : kn k = l
      · have E : Hid (kindT l = (k : Int)) := Lib.hid (by rw [← he, kindT_kn (by omega)])
        have EQ : (kn k == l) = true := by simp [he]
        clear he HN
        rcases (show k = 0 ∨ k = 1 ∨ k = 2 ∨ k = 3 by omega) with rfl | rfl | rfl | rfl
        all_goals
          go_wp2
          go_ret
          exact ⟨by rw [E.out]; rfl, New.refl _⟩
      · have HN' : Hid (∀ j, j < k + 1 → kn j ≠ l) := Lib.hid (fun j hj => by
          rcases Nat.lt_or_ge j k with h1 | h1
          · exact HN.out j h1
          · obtain rfl : j = k := by omega
            exact he)
        have EQ : (kn k == l) = false := by simp [he]
        clear he HN
        rcases (show k = 0 ∨ k = 1 ∨ k = 2 ∨ k = 3 by omega) with rfl | rfl | rfl | rfl
        all_goals
          go_wp2
          first | exact ⟨⟨1, by omega, rfl, trivial, HN'⟩, by simp [intOf]⟩ | exact ⟨⟨2, by omega, rfl, trivial, HN'⟩, by simp [intOf]⟩ | exact ⟨⟨3, by omega, rfl, trivial, HN'⟩, by simp [intOf]⟩ | exact ⟨⟨4, by omega, rfl, trivial, HN'⟩, by simp [intOf]⟩
    · obtain rfl : k = 4 := by omega
      have E : Hid (kindT l = -1) := Lib.hid (by
        unfold kindT
        rw [if_neg (Ne.symm (HN.out 0 (by omega))), if_neg (Ne.symm (HN.out 1 (by omega))), if_neg (Ne.symm (HN.out 2 (by omega))), if_neg (Ne.symm (HN.out 3 (by omega)))])
      go_wp2
      go_ret
      exact ⟨by rw [E.out]; rfl, New.refl _⟩
end Go.Proofs.YtffggmjhaaehlaaGreatDoor
