/- Parts that belong together: FlexS, FlexV. Conditions: as each part says. -/
import Derived.Test.YtobnjagmakhgpaaZA
import Derived.Test.YtobnjagmakhgpaaZC
/- The helpers of the exact laws on slices of Flex: copied, measured, compared and marked. Conditions: the slices can be read, or lie in a block of the call's own. -/
namespace Go.Proofs.Ytobnjagmakhgpaa
open Go.RowKit

theorem mkFlex (n : Nat) (hn : n ≤ 1048576) (W : World) : (Instr.makeSlice 33 (.int .i64 (n : Int)) (.int .i64 (n : Int))).run Try.prog W = .ok (.slice (some ⟨W.heap.size, 0, none⟩) n n) (W.alloc (.cells (madeCells #[Value.int .i64 0, Value.int .i64 0, Value.int .i64 0, Value.int .i64 0, Value.int .i64 0] (n * 5)) 37)) := by
  have hinfo : (Try.prog.info? 37).map (fun i => (i.zero, i.size, i.bytes)) = some (some (.agg #[Value.int .i64 0, Value.int .i64 0, Value.int .i64 0, Value.int .i64 0, Value.int .i64 0]), 5, 40) := by kernel_rfl
  obtain ⟨i, hi, hzz⟩ := Option.map_eq_some_iff.1 hinfo
  simp only [Prod.mk.injEq] at hzz
  obtain ⟨hz, hs, hb⟩ := hzz
  have h := run_make (P := Try.prog) W 33 37 i (.agg #[Value.int .i64 0, Value.int .i64 0, Value.int .i64 0, Value.int .i64 0, Value.int .i64 0]) Try.underlying33 hi hz .i64 .i64 (n : Int) (n : Int) (by omega) (by omega) (by rw [hb]; omega) (by omega)
  rw [hs] at h
  exact h
theorem zeroFlex (i : Nat) : (#[Value.int .i64 0, Value.int .i64 0, Value.int .i64 0, Value.int .i64 0, Value.int .i64 0] : Array Value)[i % (#[Value.int .i64 0, Value.int .i64 0, Value.int .i64 0, Value.int .i64 0, Value.int .i64 0] : Array Value).size]! = .int .i64 0 := by
  have h : i % 5 < 5 := Nat.mod_lt _ (by omega)
  have hs : (#[Value.int .i64 0, Value.int .i64 0, Value.int .i64 0, Value.int .i64 0, Value.int .i64 0] : Array Value).size = 5 := rfl
  rw [hs]
  generalize i % 5 = j at h
  match j, h with
  | 0, _ => rfl
  | 1, _ => rfl
  | 2, _ => rfl
  | 3, _ => rfl
  | 4, _ => rfl
  | j + 5, h => omega
theorem rowFlex_step {w2 : World} {g k n : Nat} {xs : List Int} (r : Row w2 g (upTo (k * 5) xs)) (hx : xs.length = n * 5) (hlt : k < n) : Row (((((w2.setCell ⟨g, k * 5, none⟩ (.int .i64 (xs.getD (k * 5) 0))).setCell ⟨g, k * 5 + 1, none⟩ (.int .i64 (xs.getD (k * 5 + 1) 0))).setCell ⟨g, k * 5 + 2, none⟩ (.int .i64 (xs.getD (k * 5 + 2) 0))).setCell ⟨g, k * 5 + 3, none⟩ (.int .i64 (xs.getD (k * 5 + 3) 0))).setCell ⟨g, k * 5 + 4, none⟩ (.int .i64 (xs.getD (k * 5 + 4) 0))) g (upTo ((k + 1) * 5) xs) := by
  have lq : ∀ j, j < 5 → k * 5 + j < xs.length := fun j hj => by rw [hx]; exact idx_lt hlt hj
  have r := r.set_ (k := k * 5) (by rw [upTo_len _ _ (by have := lq 0 (by omega); omega)]; exact lq 0 (by omega)) (xs.getD (k * 5) 0)
  rw [upTo_step (k * 5) xs (by have := lq 0 (by omega); omega)] at r
  have r := r.set_ (k := k * 5 + 1) (by rw [upTo_len _ _ (by have := lq 1 (by omega); omega)]; exact lq 1 (by omega)) (xs.getD (k * 5 + 1) 0)
  rw [upTo_step (k * 5 + 1) xs (by have := lq 1 (by omega); omega)] at r
  have r := r.set_ (k := k * 5 + 2) (by rw [upTo_len _ _ (by have := lq 2 (by omega); omega)]; exact lq 2 (by omega)) (xs.getD (k * 5 + 2) 0)
  rw [upTo_step (k * 5 + 2) xs (by have := lq 2 (by omega); omega)] at r
  have r := r.set_ (k := k * 5 + 3) (by rw [upTo_len _ _ (by have := lq 3 (by omega); omega)]; exact lq 3 (by omega)) (xs.getD (k * 5 + 3) 0)
  rw [upTo_step (k * 5 + 3) xs (by have := lq 3 (by omega); omega)] at r
  have r := r.set_ (k := k * 5 + 4) (by rw [upTo_len _ _ (by have := lq 4 (by omega); omega)]; exact lq 4 (by omega)) (xs.getD (k * 5 + 4) 0)
  rw [upTo_step (k * 5 + 4) xs (by have := lq 4 (by omega); omega)] at r
  rw [Nat.add_mul, Nat.one_mul]
  exact r
end Go.Proofs.Ytobnjagmakhgpaa

/- Flexible sizes, checked: the program and the reference say alike which are valid. Condition: the slices can be read. -/
namespace Go.Proofs.Ytobnjagmakhgpaa
open Go.RowKit

/-- A flexible size is valid: base, least, greatest, grow, shrink. -/
def okF (a b c d e : Int) : Bool := decide ((0 ≤ b ∧ b ≤ 10000) ∧ (b ≤ c ∧ c ≤ 10000) ∧ (b ≤ a ∧ a ≤ c) ∧ (0 ≤ d ∧ d ≤ 10) ∧ (0 ≤ e ∧ e ≤ 10))
def flOk (zs : List Int) (k : Nat) : Bool := okF (zs.getD (k * 5) 0) (zs.getD (k * 5 + 1) 0) (zs.getD (k * 5 + 2) 0) (zs.getD (k * 5 + 3) 0) (zs.getD (k * 5 + 4) 0)
def flAll (n : Nat) (zs : List Int) : Bool := decide (∀ k, k < n → flOk zs k = true)
def flsB (n : Nat) (zs : List Int) : Bool := decide (1 ≤ (n : Int) ∧ (n : Int) ≤ 8) && flAll n zs
theorem flAll_no {n k : Nat} {zs : List Int} (hk : k < n) (h : flOk zs k = false) : flAll n zs = false := by
  unfold flAll
  rw [decide_eq_false_iff_not]
  intro h'
  have := h' k hk
  rw [h] at this
  cases this
theorem flAll_yes {n : Nat} {zs : List Int} (h : ∀ k, k < n → flOk zs k = true) : flAll n zs = true := decide_eq_true h
set_option maxHeartbeats 1000000 in
theorem flexValid_any (a b c d e0 : Int) (w : World) :
    Calls Try.prog 81 #[.agg #[.int .i64 a, .int .i64 b, .int .i64 c, .int .i64 d, .int .i64 e0]] w fun e w' => e = .returned (.bool (okF a b c d e0)) ∧ New w w' := by
  go_enter Try.func81, Try.ntmps81
  go_wp2_with (go_at_call 39; refine (within_any _ _ _ _).mono ?_; rintro e w' ⟨rfl, rfl⟩)
  all_goals (go_ret; exact ⟨ret_bool (by unfold okF; rw [Bool.eq_iff_iff]; simp at *; omega), by (repeat (first | exact New.refl _ | assumption | refine New.alloc ?_ _ | refine New.drew ?_ | refine New.drewN ?_ _ | refine New.setCell ?_ (by first | omega | (simp; omega) | (simp; done)) _ | refine New.trans ?_ (by assumption)))⟩)
set_option maxHeartbeats 2000000 in
theorem ValidFlexes_in (A : Option Addr) (n c : Nat) (zs : List Int) (hn : n ≤ 1048576) (hr : 1 ≤ (n : Int) ∧ (n : Int) ≤ 8) (w : World) (hx : Sts 5 w A n zs) :
    Calls Try.prog 47 #[.slice A n c] w fun e w' => e = .returned (.bool (flsB n zs)) ∧ New w w' := by
  have HX := Lib.hid hx
  clear hx
  have hd := decide_eq_true hr
  clear hr
  go_enter Try.func47, Try.ntmps47
  go_wp2_with (go_at_call 39; refine (within_any _ _ _ _).mono ?_; rw [hd]; rintro e w' ⟨rfl, rfl⟩)
  go_loopw [11] (fun i wr => ∃ k : Nat, k ≤ n ∧ i = .int .i64 k ∧ Hid (∀ j, j < k → flOk zs j = true) ∧ Hid (New w wr)) (fun i _ => n - (intOf i).toNat)
  case atStart => exact ⟨0, Nat.zero_le _, rfl, Lib.hid (fun j h => absurd h (by omega)), Lib.hid (New.refl _)⟩
  case round =>
    obtain ⟨k, hk, rfl, HA, HN⟩ := hrel
    by_cases hlt : k < n
    · obtain ⟨b, off, rfl, hb, hc⟩ := HX.out.at_ (by omega)
      have g0 : wr.cell? ⟨b, off + k * 5, none⟩ = some (.int .i64 (zs.getD (k * 5) 0)) := (HN.out.cells b _ hb).trans (hc (k * 5) (by have := idx_lt (m := 5) (j := 0) hlt (by omega); omega))
      have g1 : wr.cell? ⟨b, off + k * 5 + 1, none⟩ = some (.int .i64 (zs.getD (k * 5 + 1) 0)) := (HN.out.cells b _ hb).trans (hc (k * 5 + 1) (by have := idx_lt (m := 5) (j := 1) hlt (by omega); omega))
      have g2 : wr.cell? ⟨b, off + k * 5 + 2, none⟩ = some (.int .i64 (zs.getD (k * 5 + 2) 0)) := (HN.out.cells b _ hb).trans (hc (k * 5 + 2) (by have := idx_lt (m := 5) (j := 2) hlt (by omega); omega))
      have g3 : wr.cell? ⟨b, off + k * 5 + 3, none⟩ = some (.int .i64 (zs.getD (k * 5 + 3) 0)) := (HN.out.cells b _ hb).trans (hc (k * 5 + 3) (by have := idx_lt (m := 5) (j := 3) hlt (by omega); omega))
      have g4 : wr.cell? ⟨b, off + k * 5 + 4, none⟩ = some (.int .i64 (zs.getD (k * 5 + 4) 0)) := (HN.out.cells b _ hb).trans (hc (k * 5 + 4) (by have := idx_lt (m := 5) (j := 4) hlt (by omega); omega))
      have k0 : (0 : Int) ≤ (k : Int) := by omega
      have k1 : (k : Int) < (n : Int) := by omega
      clear hc
      cases hok : flOk zs k
      · have HF := Lib.hid (flAll_no hlt hok)
        unfold flOk at hok
        generalize zs.getD (k * 5) 0 = y0 at g0 hok
        generalize zs.getD (k * 5 + 1) 0 = y1 at g1 hok
        generalize zs.getD (k * 5 + 2) 0 = y2 at g2 hok
        generalize zs.getD (k * 5 + 3) 0 = y3 at g3 hok
        generalize zs.getD (k * 5 + 4) 0 = y4 at g4 hok
        have hok := Lib.hid hok
        go_wp2_with (go_at_call 81; refine (flexValid_any _ _ _ _ _ _).mono ?_; rw [hok.out]; rintro e w2 ⟨rfl, h2⟩; (have H2 := Lib.hid h2); clear h2)
        go_ret
        exact ⟨ret_bool (by unfold flsB; rw [HF.out, Bool.and_false]), New.trans (b := wr) HN.out (New.trans (by (repeat (first | exact New.refl _ | assumption | refine New.alloc ?_ _ | refine New.drew ?_ | refine New.drewN ?_ _ | refine New.setCell ?_ (by first | omega | (simp; omega) | (simp; done)) _ | refine New.trans ?_ (by assumption)))) H2.out)⟩
      · have HS : Hid (∀ j, j < k + 1 → flOk zs j = true) := Lib.hid (fun j hj => by
          rcases Nat.lt_or_ge j k with h | h
          · exact HA.out j h
          · rw [show j = k by omega]; exact hok)
        unfold flOk at hok
        generalize zs.getD (k * 5) 0 = y0 at g0 hok
        generalize zs.getD (k * 5 + 1) 0 = y1 at g1 hok
        generalize zs.getD (k * 5 + 2) 0 = y2 at g2 hok
        generalize zs.getD (k * 5 + 3) 0 = y3 at g3 hok
        generalize zs.getD (k * 5 + 4) 0 = y4 at g4 hok
        have hok := Lib.hid hok
        go_wp2_with (go_at_call 81; refine (flexValid_any _ _ _ _ _ _).mono ?_; rw [hok.out]; rintro e w2 ⟨rfl, h2⟩; (have H2 := Lib.hid h2); clear h2)
        go_roundw
        case rel => exact ⟨k + 1, by omega, by go_num, HS, Lib.hid (New.trans (b := wr) HN.out (New.trans (by (repeat (first | exact New.refl _ | assumption | refine New.alloc ?_ _ | refine New.drew ?_ | refine New.drewN ?_ _ | refine New.setCell ?_ (by first | omega | (simp; omega) | (simp; done)) _ | refine New.trans ?_ (by assumption)))) H2.out))⟩
        case measure => simp [intOf]; omega
    · have hk' : k = n := by omega
      subst hk'
      go_wp2
      go_ret
      exact ⟨ret_bool (by unfold flsB; rw [flAll_yes HA.out, hd]; rfl), HN.out⟩
theorem ValidFlexes_any (A : Option Addr) (n c : Nat) (zs : List Int) (hn : n ≤ 1048576) (w : World) (hx : Sts 5 w A n zs) :
    Calls Try.prog 47 #[.slice A n c] w fun e w' => e = .returned (.bool (flsB n zs)) ∧ New w w' := by
  by_cases hr : 1 ≤ (n : Int) ∧ (n : Int) ≤ 8
  · exact ValidFlexes_in A n c zs hn hr w hx
  · have hd := decide_eq_false hr
    clear hr hx
    go_enter Try.func47, Try.ntmps47
    go_wp2_with (go_at_call 39; refine (within_any _ _ _ _).mono ?_; rw [hd]; rintro e w' ⟨rfl, rfl⟩)
    go_ret
    exact ⟨ret_bool (by unfold flsB; rw [hd]; rfl), New.refl _⟩
end Go.Proofs.Ytobnjagmakhgpaa
