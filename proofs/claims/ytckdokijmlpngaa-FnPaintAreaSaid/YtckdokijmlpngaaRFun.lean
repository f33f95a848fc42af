/- slices.IndexFunc and slices.ContainsFunc on a row of rectangles, over the predicates of chapter 16, walked. Conditions: the row can be read; the predicate answers at each of its rectangles. -/
import Derived.Test.YtckdokijmlpngaaUpB
import Derived.Test.YtckdokijmlpngaaRect
namespace Go.Proofs.Ytckdokijmlpngaa
open Go.RowKit

/-- The closure of pointsBeside answers at each rectangle of the row. -/
def BesP (w : World) (q1 q2 : Nat) (n : Nat) (xs : List Int) (p : Nat → Bool) : Prop :=
  ∀ (W : World), New w W → ∀ k, k < n → Calls Try.prog 69 #[.agg #[.int .i64 (xs.getD (k * 4) 0), .int .i64 (xs.getD (k * 4 + 1) 0), .int .i64 (xs.getD (k * 4 + 2) 0), .int .i64 (xs.getD (k * 4 + 3) 0)], .pointer (some ⟨q1, 0, none⟩), .pointer (some ⟨q2, 0, none⟩)] W fun e W' => e = .returned (.bool (p k)) ∧ New W W'
/-- The method meets of a rectangle answers at each rectangle of the row. -/
def MetP (w : World) (r0 r1 r2 r3 : Int) (n : Nat) (xs : List Int) (p : Nat → Bool) : Prop :=
  ∀ (W : World), New w W → ∀ k, k < n → Calls Try.prog 54 #[.agg #[.int .i64 r0, .int .i64 r1, .int .i64 r2, .int .i64 r3], .agg #[.int .i64 (xs.getD (k * 4) 0), .int .i64 (xs.getD (k * 4 + 1) 0), .int .i64 (xs.getD (k * 4 + 2) 0), .int .i64 (xs.getD (k * 4 + 3) 0)]] W fun e W' => e = .returned (.bool (p k)) ∧ New W W'
set_option maxHeartbeats 1000000 in
theorem IndexBes_any (A : Option Addr) (n c : Nat) (q1 q2 : Nat) (p : Nat → Bool) (xs : List Int) (hn : n ≤ 1000) (w : World) (hx : Sts 4 w A n xs) (hp : BesP w q1 q2 n xs p) :
    Calls Try.prog 53 #[.slice A n c, .func (.func 69) #[] #[.pointer (some ⟨q1, 0, none⟩), .pointer (some ⟨q2, 0, none⟩)]] w fun e w' => New w w' ∧
      ((e = .returned (.int .i64 (-1)) ∧ ∀ i, i < n → p i = false) ∨ ∃ k, k < n ∧ e = .returned (.int .i64 (k : Int)) ∧ (∀ i, i < k → p i = false) ∧ p k = true) := by
  have HX := Lib.hid hx; have HP := Lib.hid hp
  have n1 : (n : Int) ≤ 1000 := by omega
  clear hx hp
  go_enter Try.func53, Try.ntmps53
  go_wp2
  go_loopw [8] (fun i wr => ∃ k : Nat, k ≤ n ∧ i = .int .i64 (k : Int) ∧ Hid (New w wr) ∧ Hid (∀ i, i < k → p i = false)) (fun i _ => n - (intOf i).toNat)
  case atStart => exact ⟨0, Nat.zero_le _, rfl, Lib.hid (New.refl _), Lib.hid (fun i h => absurd h (by omega))⟩
  case round =>
    obtain ⟨k, hk, rfl, HN, HA⟩ := hrel
    have k0 : (0 : Int) ≤ (k : Int) := by omega
    by_cases hlt : k < n
    · have k1 : (k : Int) < (n : Int) := by omega
      obtain ⟨b, off, rfl, hb, hc⟩ := HX.out.at_ (by omega)
      have g0 : wr.cell? ⟨b, off + k * 4, none⟩ = some (.int .i64 (xs.getD (k * 4) 0)) := (HN.out.cells b _ hb).trans (hc (k * 4) (by have := idx_lt (m := 4) (j := 0) hlt (by omega); omega))
      have g1 : wr.cell? ⟨b, off + k * 4 + 1, none⟩ = some (.int .i64 (xs.getD (k * 4 + 1) 0)) := (HN.out.cells b _ hb).trans (hc (k * 4 + 1) (by have := idx_lt (m := 4) (j := 1) hlt (by omega); omega))
      have g2 : wr.cell? ⟨b, off + k * 4 + 2, none⟩ = some (.int .i64 (xs.getD (k * 4 + 2) 0)) := (HN.out.cells b _ hb).trans (hc (k * 4 + 2) (by have := idx_lt (m := 4) (j := 2) hlt (by omega); omega))
      have g3 : wr.cell? ⟨b, off + k * 4 + 3, none⟩ = some (.int .i64 (xs.getD (k * 4 + 3) 0)) := (HN.out.cells b _ hb).trans (hc (k * 4 + 3) (by have := idx_lt (m := 4) (j := 3) hlt (by omega); omega))
      have CP := Lib.hid (HP.out wr HN.out k hlt)
      clear hc hb
      generalize xs.getD (k * 4) 0 = y0 at g0 CP
      generalize xs.getD (k * 4 + 1) 0 = y1 at g1 CP
      generalize xs.getD (k * 4 + 2) 0 = y2 at g2 CP
      generalize xs.getD (k * 4 + 3) 0 = y3 at g3 CP
      cases hpx : p k
      · rw [hpx] at CP
        have HA2 : Hid (∀ i, i < k + 1 → p i = false) := Lib.hid (fun i hi => by
          by_cases e : i = k
          · subst e; exact hpx
          · exact HA.out i (by omega))
        go_wp2_with fail
        refine CP.out.mono ?_
        rintro e w2 ⟨rfl, h2⟩
        have N2 := Lib.hid (HN.out.trans h2)
        clear h2
        go_wp2
        go_roundw
        case rel => exact ⟨k + 1, by omega, by go_num, N2, HA2⟩
        case measure => simp [intOf]; omega
      · rw [hpx] at CP
        go_wp2_with fail
        refine CP.out.mono ?_
        rintro e w2 ⟨rfl, h2⟩
        have N2 := Lib.hid (HN.out.trans h2)
        clear h2
        go_wp2
        go_ret
        exact ⟨N2.out, .inr ⟨k, hlt, rfl, HA.out, hpx⟩⟩
    · obtain rfl : n = k := by omega
      go_wp2
      go_ret
      exact ⟨HN.out, .inl ⟨rfl, HA.out⟩⟩
set_option maxHeartbeats 1000000 in
theorem IndexMet_any (A : Option Addr) (n c : Nat) (r0 r1 r2 r3 : Int) (p : Nat → Bool) (xs : List Int) (hn : n ≤ 1000) (w : World) (hx : Sts 4 w A n xs) (hp : MetP w r0 r1 r2 r3 n xs p) :
    Calls Try.prog 53 #[.slice A n c, .func (.func 54) #[.agg #[.int .i64 r0, .int .i64 r1, .int .i64 r2, .int .i64 r3]] #[]] w fun e w' => New w w' ∧
      ((e = .returned (.int .i64 (-1)) ∧ ∀ i, i < n → p i = false) ∨ ∃ k, k < n ∧ e = .returned (.int .i64 (k : Int)) ∧ (∀ i, i < k → p i = false) ∧ p k = true) := by
  have HX := Lib.hid hx; have HP := Lib.hid hp
  have n1 : (n : Int) ≤ 1000 := by omega
  clear hx hp
  go_enter Try.func53, Try.ntmps53
  go_wp2
  go_loopw [8] (fun i wr => ∃ k : Nat, k ≤ n ∧ i = .int .i64 (k : Int) ∧ Hid (New w wr) ∧ Hid (∀ i, i < k → p i = false)) (fun i _ => n - (intOf i).toNat)
  case atStart => exact ⟨0, Nat.zero_le _, rfl, Lib.hid (New.refl _), Lib.hid (fun i h => absurd h (by omega))⟩
  case round =>
    obtain ⟨k, hk, rfl, HN, HA⟩ := hrel
    have k0 : (0 : Int) ≤ (k : Int) := by omega
    by_cases hlt : k < n
    · have k1 : (k : Int) < (n : Int) := by omega
      obtain ⟨b, off, rfl, hb, hc⟩ := HX.out.at_ (by omega)
      have g0 : wr.cell? ⟨b, off + k * 4, none⟩ = some (.int .i64 (xs.getD (k * 4) 0)) := (HN.out.cells b _ hb).trans (hc (k * 4) (by have := idx_lt (m := 4) (j := 0) hlt (by omega); omega))
      have g1 : wr.cell? ⟨b, off + k * 4 + 1, none⟩ = some (.int .i64 (xs.getD (k * 4 + 1) 0)) := (HN.out.cells b _ hb).trans (hc (k * 4 + 1) (by have := idx_lt (m := 4) (j := 1) hlt (by omega); omega))
      have g2 : wr.cell? ⟨b, off + k * 4 + 2, none⟩ = some (.int .i64 (xs.getD (k * 4 + 2) 0)) := (HN.out.cells b _ hb).trans (hc (k * 4 + 2) (by have := idx_lt (m := 4) (j := 2) hlt (by omega); omega))
      have g3 : wr.cell? ⟨b, off + k * 4 + 3, none⟩ = some (.int .i64 (xs.getD (k * 4 + 3) 0)) := (HN.out.cells b _ hb).trans (hc (k * 4 + 3) (by have := idx_lt (m := 4) (j := 3) hlt (by omega); omega))
      have CP := Lib.hid (HP.out wr HN.out k hlt)
      clear hc hb
      generalize xs.getD (k * 4) 0 = y0 at g0 CP
      generalize xs.getD (k * 4 + 1) 0 = y1 at g1 CP
      generalize xs.getD (k * 4 + 2) 0 = y2 at g2 CP
      generalize xs.getD (k * 4 + 3) 0 = y3 at g3 CP
      cases hpx : p k
      · rw [hpx] at CP
        have HA2 : Hid (∀ i, i < k + 1 → p i = false) := Lib.hid (fun i hi => by
          by_cases e : i = k
          · subst e; exact hpx
          · exact HA.out i (by omega))
        go_wp2_with fail
        refine CP.out.mono ?_
        rintro e w2 ⟨rfl, h2⟩
        have N2 := Lib.hid (HN.out.trans h2)
        clear h2
        go_wp2
        go_roundw
        case rel => exact ⟨k + 1, by omega, by go_num, N2, HA2⟩
        case measure => simp [intOf]; omega
      · rw [hpx] at CP
        go_wp2_with fail
        refine CP.out.mono ?_
        rintro e w2 ⟨rfl, h2⟩
        have N2 := Lib.hid (HN.out.trans h2)
        clear h2
        go_wp2
        go_ret
        exact ⟨N2.out, .inr ⟨k, hlt, rfl, HA.out, hpx⟩⟩
    · obtain rfl : n = k := by omega
      go_wp2
      go_ret
      exact ⟨HN.out, .inl ⟨rfl, HA.out⟩⟩
/-- One of the first n has a property. -/
def anyTo (n : Nat) (p : Nat → Bool) : Bool := decide (∃ k, k < n ∧ p k = true)
theorem anyTo_iff {n : Nat} {p : Nat → Bool} : anyTo n p = true ↔ ∃ k, k < n ∧ p k = true := by unfold anyTo; simp
theorem anyTo_step {n : Nat} (p : Nat → Bool) : anyTo (n + 1) p = (anyTo n p || p n) := by
  rw [Bool.eq_iff_iff, Bool.or_eq_true, anyTo_iff, anyTo_iff]
  constructor
  · rintro ⟨k, hk, h⟩
    by_cases e : k = n
    · subst e; exact .inr h
    · exact .inl ⟨k, by omega, h⟩
  · rintro (⟨k, hk, h⟩ | h)
    · exact ⟨k, by omega, h⟩
    · exact ⟨n, by omega, h⟩
theorem anyTo_no {n : Nat} {p : Nat → Bool} (h : ∀ i, i < n → p i = false) : anyTo n p = false := by
  rw [Bool.eq_false_iff]; intro e; obtain ⟨k, hk, hp⟩ := anyTo_iff.1 e; rw [h k hk] at hp; cases hp
set_option maxHeartbeats 1000000 in
theorem ContainsBes_any (A : Option Addr) (n c : Nat) (q1 q2 : Nat) (p : Nat → Bool) (xs : List Int) (hn : n ≤ 1000) (w : World) (hx : Sts 4 w A n xs) (hp : BesP w q1 q2 n xs p) :
    Calls Try.prog 68 #[.slice A n c, .func (.func 69) #[] #[.pointer (some ⟨q1, 0, none⟩), .pointer (some ⟨q2, 0, none⟩)]] w fun e w' => e = .returned (.bool (anyTo n p)) ∧ New w w' := by
  have CT := Lib.hid (IndexBes_any A n c q1 q2 p xs hn w hx hp)
  clear hx hp
  go_enter Try.func68, Try.ntmps68
  go_wp2_with fail
  refine CT.out.mono ?_
  rintro e w1 ⟨N1, ⟨rfl, hall⟩ | ⟨k, hk, rfl, hbe, hpk⟩⟩
  · have E := Lib.hid (anyTo_no hall)
    clear hall
    go_wp2
    go_ret
    exact ⟨ret_bool E.out.symm, N1⟩
  · have E := Lib.hid (anyTo_iff.2 ⟨k, hk, hpk⟩)
    have k0 : (0 : Int) ≤ (k : Int) := by omega
    clear hbe hpk
    go_wp2
    go_ret
    exact ⟨ret_bool (by rw [E.out]), N1⟩
end Go.Proofs.Ytckdokijmlpngaa
