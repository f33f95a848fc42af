/- parseInt of the reference. Condition: the word is no longer than a text may be. -/
import Derived.Test.YtffggmjhaaehlaaGreatDoorPbM
import Derived.Test.YtffggmjhaaehlaaGreatDoorInts2
namespace Go.Proofs.YtffggmjhaaehlaaGreatDoor
open Go.RowKit

theorem dd_digit : ∀ (u : Nat), ∀ b ∈ Lib.decDigits u, 48 ≤ b.toNat ∧ b.toNat ≤ 57 := by
  intro u
  induction u using Nat.strongRecOn with
  | ind u ih =>
    intro b hb
    by_cases h : u < 10
    · rw [decDigits_low h] at hb
      rw [List.mem_singleton.1 hb, dig_toNat h]; omega
    · rw [decDigits_high h] at hb
      rcases List.mem_append.1 hb with hb | hb
      · exact ih (u / 10) (by omega) b hb
      · rw [List.mem_singleton.1 hb, dig_toNat (by omega)]; omega
theorem numT_bad {l : List UInt8} {k : Nat} (hk : k < l.length) (h : ¬ (48 ≤ (l.getD k 0).toNat ∧ (l.getD k 0).toNat ≤ 57)) : numT l = -1 := numT_no fun u e => h (by
  have := dd_digit u (l.getD k 0) (by rw [e, List.getD_eq_getElem?_getD, List.getElem?_eq_getElem hk]; exact List.getElem_mem _)
  exact this)
theorem dval_next {l : List UInt8} {k : Nat} (hk : k < l.length) : dval (l.take (k + 1)) = dval (l.take k) * 10 + ((l.getD k 0).toNat - 48) := by
  have e : l.take (k + 1) = l.take k ++ [l.getD k 0] := by
    rw [List.take_add_one, List.getElem?_eq_getElem hk, List.getD_eq_getElem?_getD, List.getElem?_eq_getElem hk]; rfl
  rw [e]
  unfold dval
  rw [List.foldl_append]
  rfl
theorem numT_dval {l : List UInt8} (hl : l.length ≤ 5) : numT l = if Lib.decDigits (dval l) = l then (dval l : Int) else -1 := by
  unfold numT
  by_cases h : Lib.decDigits (dval l) = l
  · rw [if_pos ⟨hl, h⟩, if_pos h]
  · rw [if_neg (fun k => h k.2), if_neg h]
set_option maxRecDepth 100000 in
set_option maxHeartbeats 1000000 in
theorem parseInt_any (l : List UInt8) (hl : l.length ≤ 2000000) (w : World) : Calls Tryz.prog 35 #[str l] w fun e w' => e = .returned (.int .i64 (numT l)) ∧ New w w' := by
  by_cases h0 : l.length = 0
  · have E : Hid (numT l = -1) := Lib.hid (by rw [List.length_eq_zero_iff.1 h0]; exact numT_no (fun u e => (dd_bytes u).1 e))
    go_enter Tryz.func35, Tryz.ntmps35
    go_wp2
    go_ret
    exact ⟨by rw [E.out]; rfl, New.refl _⟩
  have h0i : ((l.length : Int) == 0) = false := by simp; exact fun h => h0 (by rw [h]; rfl)
  by_cases h5 : 5 < l.length
  · have E := Lib.hid (numT_long h5)
    have h5i : (5 : Int) < (l.length : Int) := by omega
    clear h0
    go_enter Tryz.func35, Tryz.ntmps35
    go_wp2
    go_ret
    exact ⟨by rw [E.out]; rfl, New.refl _⟩
  have h5i : ¬ (5 : Int) < (l.length : Int) := by omega
  have h5d : decide ((5 : Int) < (l.length : Int)) = false := decide_eq_false h5i
  obtain ⟨L, hL⟩ : ∃ L, l.length = L := ⟨_, rfl⟩
  have HL := Lib.hid hL
  have L5 : L ≤ 5 := by omega
  rw [hL] at h0i h5i h5d
  clear h0 h5 hl
  go_enter Tryz.func35, Tryz.ntmps35
  go_wp2
  go_loopw [3, 4] (fun n i wr => ∃ k : Nat, k ≤ L ∧ i = .int .i64 (k : Int) ∧ n = .int .i64 (dval (l.take k) : Int) ∧ Hid (dval (l.take k) < 10 ^ k) ∧ Hid (New w wr)) (fun _ i _ => L - (intOf i).toNat)
  case atStart => exact ⟨0, by omega, rfl, rfl, Lib.hid (by show 0 < 1; omega), Lib.hid (New.refl _)⟩
  case round =>
    obtain ⟨k, hk, rfl, rfl, HB, HN⟩ := hrel
    have k0 : (0 : Int) ≤ (k : Int) := by omega
    by_cases hlt : k < L
    · have IX := fun W => run_str_at 9 Tryz.underlying9 l k (by rw [HL.out]; exact hlt) W
      have p5 : 10 ^ k ≤ 10 ^ 4 := Nat.pow_le_pow_right (by omega) (by omega)
      have DB : dval (l.take k) < 10000 := by have := HB.out; omega
      have BN := Lib.hid (numT_bad (l := l) (k := k) (by rw [HL.out]; exact hlt))
      have DN := Lib.hid (dval_next (l := l) (k := k) (by rw [HL.out]; exact hlt))
      have bl : (l.getD k 0).toNat < 256 := UInt8.toNat_lt _
      generalize (l.getD k 0).toNat = b at *
      have bw : IntKind.i64.wrap (b : Int) = (b : Int) := IntWalk.i64_in _ (by omega)
      obtain ⟨D, hD⟩ : ∃ D, dval (l.take k) = D := ⟨_, rfl⟩
      rw [hD] at DB DN HB ⊢
      by_cases hd : 48 ≤ b ∧ b ≤ 57
      · have HB2 : Hid (D * 10 + (b - 48) < 10 ^ (k + 1)) := Lib.hid (by have := HB.out; rw [Nat.pow_succ]; omega)
        have e1 : (48 : Int) ≤ (b : Int) := by omega
        have e2 : (b : Int) ≤ 57 := by omega
        have e3 : (10 : Int) * (D : Int) + (b : Int) - 48 = ((D * 10 + (b - 48) : Nat) : Int) := by omega
        have w1 : IntKind.i64.wrap (10 * (D : Int)) = 10 * (D : Int) := IntWalk.i64_in _ (by omega)
        have w2 : IntKind.i64.wrap (10 * (D : Int) + (b : Int)) = 10 * (D : Int) + (b : Int) := IntWalk.i64_in _ (by omega)
        have w3 : IntKind.i64.wrap (10 * (D : Int) + (b : Int) - 48) = 10 * (D : Int) + (b : Int) - 48 := IntWalk.i64_in _ (by omega)
        have E3 := Lib.hid e3
        clear hD hd e3 BN
        go_wp2_with (go_at_call 37; refine (inRange_any _ _ _ _).mono ?_; rintro e w' ⟨rfl, rfl⟩)
        exact ⟨⟨k + 1, by omega, rfl, by rw [DN.out, E3.out], by rw [DN.out]; exact HB2, HN⟩, by simp [intOf]; omega⟩
      · have E := Lib.hid (BN.out hd)
        have e1 : ¬ ((48 : Int) ≤ (b : Int) ∧ (b : Int) ≤ 57) := by omega
        have e2 : decide ((48 : Int) ≤ (b : Int) ∧ (b : Int) ≤ 57) = false := decide_eq_false e1
        have IR : Hid (∀ W, Calls Tryz.prog 37 #[.int .i64 (b : Int), .int .i64 48, .int .i64 57] W fun e w' => e = .returned (.bool false) ∧ W = w') := Lib.hid (fun W => (inRange_any (b : Int) 48 57 W).mono fun e w' ⟨he, hw⟩ => ⟨by rw [he, e2], hw⟩)
        clear hD hd BN DN HB p5 DB e1 e2
        go_wp2_with (go_at_call 37; refine (IR.out _).mono ?_; rintro e w' ⟨rfl, rfl⟩)
        go_ret
        exact ⟨by rw [E.out]; rfl, HN.out⟩
    · obtain rfl : k = L := by omega
      have ET : Hid (l.take k = l) := Lib.hid (by rw [← HL.out, List.take_length])
      rw [ET.out] at HB ⊢
      have E := Lib.hid (numT_dval (l := l) (by rw [HL.out]; exact L5))
      have p5 : 10 ^ k ≤ 10 ^ 5 := Nat.pow_le_pow_right (by omega) L5
      have DB : dval l < 100000 := by have := HB.out; omega
      obtain ⟨D, hD⟩ : ∃ D, dval l = D := ⟨_, rfl⟩
      rw [hD] at DB E ⊢
      have DT := Lib.hid (decimalN_any D (by omega) wr)
      clear hD HB p5
      by_cases he : Lib.decDigits D = l
      · have EQ : (Lib.decDigits D == l) = true := by simp [he]
        have E2 : Hid (numT l = (D : Int)) := Lib.hid (by rw [E.out, if_pos he])
        clear he E
        go_wp2_with fail
        refine DT.out.mono ?_
        rintro e w2 ⟨rfl, N2⟩
        have N2 := Lib.hid (HN.out.trans N2)
        go_wp2
        go_ret
        exact ⟨by rw [E2.out]; rfl, N2.out⟩
      · have EQ : (Lib.decDigits D == l) = false := by simp [he]
        have E2 : Hid (numT l = -1) := Lib.hid (by rw [E.out, if_neg he])
        clear he E
        go_wp2_with fail
        refine DT.out.mono ?_
        rintro e w2 ⟨rfl, N2⟩
        have N2 := Lib.hid (HN.out.trans N2)
        go_wp2
        go_ret
        exact ⟨by rw [E2.out]; rfl, N2.out⟩
end Go.Proofs.YtffggmjhaaehlaaGreatDoor
