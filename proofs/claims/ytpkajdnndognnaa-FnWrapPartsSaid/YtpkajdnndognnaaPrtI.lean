/- Lines of parts, in the program: what is valid, how many parts a line takes, how high it is, walked. Condition: the parts can be read. -/
import Derived.Test.YtpkajdnndognnaaPrtM
import Derived.Test.YtpkajdnndognnaaPrtV
namespace Go.Proofs.Ytpkajdnndognnaa
open Go.RowKit

set_option maxHeartbeats 1000000 in
theorem validLines_any (A : Option Addr) (n c : Nat) (zs : List Int) (wd gap : Int) (hn : n ≤ 1048576) (w : World) (hx : Sts 2 w A n zs) :
    Calls Try.prog 50 #[.slice A n c, .int .i64 wd, .int .i64 gap] w fun e w' => e = .returned (.bool (wrOk zs n wd gap)) ∧ New w w' := by
  have CV := Lib.hid (ValidParts_any A n c zs hn w hx)
  clear hx
  unfold wrOk
  cases hv : prsB n zs
  · go_enter Try.func50, Try.ntmps50
    go_wp2_with (go_at_call 34; refine CV.out.mono ?_; rw [hv]; rintro e w1 ⟨rfl, N1⟩; have N1 := Lib.hid N1)
    go_ret
    exact ⟨rfl, N1.out⟩
  cases h1 : decide (0 ≤ wd ∧ wd ≤ 10000)
  · go_enter Try.func50, Try.ntmps50
    go_wp2_with (first
      | (go_at_call 34; refine CV.out.mono ?_; rw [hv]; rintro e w1 ⟨rfl, N1⟩; have N1 := Lib.hid N1)
      | (go_at_call_of 67 wd; refine (within_any _ _ _ _).mono ?_; rw [h1]; rintro e w' ⟨rfl, rfl⟩))
    go_ret
    exact ⟨rfl, N1.out⟩
  cases h2 : decide (0 ≤ gap ∧ gap ≤ 50)
  all_goals
    go_enter Try.func50, Try.ntmps50
    go_wp2_with (first
      | (go_at_call 34; refine CV.out.mono ?_; rw [hv]; rintro e w1 ⟨rfl, N1⟩; have N1 := Lib.hid N1)
      | (go_at_call_of 67 wd; refine (within_any _ _ _ _).mono ?_; rw [h1]; rintro e w' ⟨rfl, rfl⟩)
      | (go_at_call_of 67 gap; refine (within_any _ _ _ _).mono ?_; rw [h2]; rintro e w' ⟨rfl, rfl⟩))
    go_ret
    exact ⟨rfl, N1.out⟩
/-- The parts from part a on, as a slice. -/
def tailS (b off a n c : Nat) : Value := .slice (some ⟨b, off + a * 2, none⟩) (n - a) (c - a)
set_option maxHeartbeats 2000000 in
theorem lineLength_any (b off n c a : Nat) (zs : List Int) (wd gap : Int) (hok : wrOk zs n wd gap = true) (ha : a < n) (hnc : n ≤ c) (w : World) (hx : Sts 2 w (some ⟨b, off, none⟩) n zs) :
    Calls Try.prog 64 #[tailS b off a n c, .int .i64 wd, .int .i64 gap] w fun e w' => e = .returned (.int .i64 ((ln zs n wd gap a : Nat) : Int)) ∧ New w w' := by
  obtain ⟨hv, hw, hg⟩ := wrOk_iff.1 hok
  have n12 := n_le hv
  obtain ⟨m, hm⟩ : ∃ m, n = a + (m + 1) := ⟨n - a - 1, by omega⟩
  obtain ⟨r, hr⟩ : ∃ r, c = a + (m + 1) + r := ⟨c - (a + (m + 1)), by omega⟩
  obtain ⟨b', off', e, hb, hc⟩ := hx.at_ (by omega)
  simp only [Option.some.injEq, Addr.mk.injEq, and_true] at e
  obtain ⟨rfl, rfl⟩ := e
  have HC : Hid (∀ j, j < m + 1 → w.cell? ⟨b, off + a * 2 + j * 2, none⟩ = some (.int .i64 (pw zs (a + j))) ∧ w.cell? ⟨b, off + a * 2 + j * 2 + 1, none⟩ = some (.int .i64 (ph zs (a + j)))) := Lib.hid (fun j hj => by
    have h0 := hc ((a + j) * 2) (by omega)
    have h1 := hc ((a + j) * 2 + 1) (by omega)
    rw [show off + (a + j) * 2 = off + a * 2 + j * 2 by omega] at h0
    rw [show off + ((a + j) * 2 + 1) = off + a * 2 + j * 2 + 1 by omega] at h1
    exact ⟨h0, h1⟩)
  have UB := Lib.hid (fun j (hj : j < m + 1) => usd_bd hv hg (a := a) j (by omega))
  have PB := Lib.hid (fun j (hj : j < m + 1) => (pr_bd hv (k := a + j) (by omega)).1)
  have US : Hid (∀ j, usd zs gap a (j + 1) = usd zs gap a j + (gap + pw zs (a + (j + 1)))) := Lib.hid (fun j => rfl)
  have LE := Lib.hid (fun L => ln_eq (zs := zs) (n := n) (wd := wd) (gap := gap) (a := a) (L := L))
  have U0 : Hid (usd zs gap a 0 = pw zs (a + 0)) := Lib.hid rfl
  unfold tailS
  rw [show n - a = m + 1 by omega, show c - a = m + 1 + r by omega]
  have m0 : (0 : Int) ≤ (m : Int) := by omega
  have m12 : (m : Int) ≤ 11 := by omega
  have r0 : (0 : Int) ≤ (r : Int) := by omega
  have mc : (m : Int) + 1 ≤ (m : Int) + 1 + (r : Int) := by omega
  have mc1 : (1 : Int) ≤ (m : Int) + 1 := by omega
  have mc2 : (1 : Int) ≤ (m : Int) + 1 + (r : Int) := by omega
  obtain ⟨hg0, hg1⟩ := hg
  obtain ⟨hw0, hw1⟩ := hw
  generalize hO : off + a * 2 = O at *
  clear hx hc hok
  have h00 := (HC.out 0 (by omega)).1
  simp only [Nat.zero_mul, Nat.add_zero] at h00
  by_cases hmr : m + 1 + r = 1
  · obtain rfl : m = 0 := by omega
    obtain rfl : r = 0 := by omega
    have L1 := Lib.hid (LE.out 1 (Nat.le_refl _) (by omega) (fun j h1 h2 => by omega) (.inl (by omega)))
    rw [← L1.out]
    go_enter Try.func64, Try.ntmps64
    go_wp2
    go_loopw [17] (fun i wr => i = .int .i64 0 ∧ wr = w) (fun _ _ => 0)
    case atStart => exact ⟨rfl, rfl⟩
    case round =>
      obtain ⟨rfl, rfl⟩ := hrel
      go_wp2
      go_ret
      exact ⟨rfl, New.refl _⟩
  have hmr2 : 2 ≤ m + 1 + r := by omega
  go_enter Try.func64, Try.ntmps64
  go_wp2
  go_loopw [7, 17] (fun u i wr => ∃ j : Nat, j ≤ m ∧ i = .int .i64 j ∧ u = .int .i64 (usd zs gap a j) ∧ Hid (∀ t, 1 ≤ t → t < j + 1 → usd zs gap a t ≤ wd) ∧ Hid (New w wr)) (fun _ i _ => m - (intOf i).toNat)
  case atStart => exact ⟨0, Nat.zero_le _, rfl, by rw [U0.out, Nat.add_zero], Lib.hid (fun t h1 h2 => by omega), Lib.hid (New.refl _)⟩
  case round =>
    obtain ⟨j, hj, rfl, rfl, HA, HN⟩ := hrel
    have j0 : (0 : Int) ≤ (j : Int) := by omega
    by_cases hlt : j < m
    · have j1 : (j : Int) < (m : Int) := by omega
      obtain ⟨h0, h1⟩ := HC.out (j + 1) (by omega)
      have g0 : wr.cell? ⟨b, O + 2 + j * 2, none⟩ = some (.int .i64 (pw zs (a + (j + 1)))) := (HN.out.cells b _ hb).trans (by rw [show O + 2 + j * 2 = O + (j + 1) * 2 by omega]; exact h0)
      have g1 : wr.cell? ⟨b, O + 2 + j * 2 + 1, none⟩ = some (.int .i64 (ph zs (a + (j + 1)))) := (HN.out.cells b _ hb).trans (by rw [show O + 2 + j * 2 + 1 = O + (j + 1) * 2 + 1 by omega]; exact h1)
      obtain ⟨u0, u1⟩ := UB.out j (by omega)
      obtain ⟨p0, p1⟩ := PB.out (j + 1) (by omega)
      have us := US.out j
      have LN := Lib.hid (fun (h : wd < usd zs gap a (j + 1)) => LE.out (j + 1) (by omega) (by omega) HA.out (.inr h))
      have LS := Lib.hid (fun (h : ¬ wd < usd zs gap a (j + 1)) => (show ∀ t, 1 ≤ t → t < j + 1 + 1 → usd zs gap a t ≤ wd from fun t h1 h2 => by
        by_cases e : t = j + 1
        · rw [e]; omega
        · exact HA.out t h1 (by omega)))
      have USj := Lib.hid us
      rw [us] at LN LS
      clear h0 h1 us
      generalize usd zs gap a j = u at *
      generalize pw zs (a + (j + 1)) = p at *
      generalize ph zs (a + (j + 1)) = q at *
      by_cases hq : wd < u + (gap + p)
      · have RN := Lib.hid (LN.out hq)
        have hd : decide (u + (gap + p) > wd) = true := decide_eq_true hq
        clear LN LS
        go_wp2
        go_ret
        exact ⟨ret_int (by rw [← RN.out]; omega), HN.out.alloc _⟩
      · have SN := Lib.hid (LS.out hq)
        have hd : decide (u + (gap + p) > wd) = false := decide_eq_false hq
        clear LN LS
        go_wp2
        go_roundw
        case rel => exact ⟨j + 1, by omega, by go_num, by rw [USj.out], SN, Lib.hid (HN.out.alloc _)⟩
        case measure => simp [intOf]; omega
    · obtain rfl : m = j := by omega
      have L1 := Lib.hid (LE.out (m + 1) (by omega) (by omega) HA.out (.inl (by omega)))
      go_wp2
      go_ret
      exact ⟨ret_int (by rw [← L1.out]; omega), HN.out⟩
set_option maxHeartbeats 2000000 in
theorem lineHeight_any (b off m c a : Nat) (n : Nat) (zs : List Int) (hv : prsB n zs = true) (ha : a + m ≤ n) (hm : 0 < m) (w : World) (hx : Sts 2 w (some ⟨b, off, none⟩) n zs) :
    Calls Try.prog 44 #[.slice (some ⟨b, off + a * 2, none⟩) m c] w fun e w' => e = .returned (.int .i64 (mxh zs a m)) ∧ New w w' := by
  obtain ⟨b', off', e, hb, hc⟩ := hx.at_ (by omega)
  simp only [Option.some.injEq, Addr.mk.injEq, and_true] at e
  obtain ⟨rfl, rfl⟩ := e
  have n12 := n_le hv
  have HC : Hid (∀ j, j < m → w.cell? ⟨b, off + a * 2 + j * 2, none⟩ = some (.int .i64 (pw zs (a + j))) ∧ w.cell? ⟨b, off + a * 2 + j * 2 + 1, none⟩ = some (.int .i64 (ph zs (a + j)))) := Lib.hid (fun j hj => by
    have h0 := hc ((a + j) * 2) (by omega)
    have h1 := hc ((a + j) * 2 + 1) (by omega)
    rw [show off + (a + j) * 2 = off + a * 2 + j * 2 by omega] at h0
    rw [show off + ((a + j) * 2 + 1) = off + a * 2 + j * 2 + 1 by omega] at h1
    exact ⟨h0, h1⟩)
  have MS : Hid (∀ j, mxh zs a (j + 1) = mx (mxh zs a j) (ph zs (a + j))) := Lib.hid (fun j => rfl)
  have hmx := run_mx Try.prog
  have m0 : (0 : Int) ≤ (m : Int) := by omega
  generalize hO : off + a * 2 = O at *
  clear hx hc hv
  go_enter Try.func44, Try.ntmps44
  go_wp2
  go_loopw [3, 8] (fun u i wr => ∃ j : Nat, j ≤ m ∧ i = .int .i64 j ∧ u = .int .i64 (mxh zs a j) ∧ Hid (New w wr)) (fun _ i _ => m - (intOf i).toNat)
  case atStart => exact ⟨0, Nat.zero_le _, rfl, rfl, Lib.hid (New.refl _)⟩
  case round =>
    obtain ⟨j, hj, rfl, rfl, HN⟩ := hrel
    have j0 : (0 : Int) ≤ (j : Int) := by omega
    by_cases hlt : j < m
    · have j1 : (j : Int) < (m : Int) := by omega
      obtain ⟨h0, h1⟩ := HC.out j hlt
      have g0 := (HN.out.cells b _ hb).trans h0
      have g1 := (HN.out.cells b _ hb).trans h1
      have MSj := Lib.hid (MS.out j)
      clear h0 h1
      generalize mxh zs a j = u at *
      generalize pw zs (a + j) = p at *
      generalize ph zs (a + j) = q at *
      go_wp2
      go_roundw
      case rel => exact ⟨j + 1, by omega, by go_num, by rw [MSj.out], Lib.hid (HN.out.alloc _)⟩
      case measure => simp [intOf]; omega
    · obtain rfl : m = j := by omega
      go_wp2
      go_ret
      exact ⟨rfl, HN.out⟩
end Go.Proofs.Ytpkajdnndognnaa
