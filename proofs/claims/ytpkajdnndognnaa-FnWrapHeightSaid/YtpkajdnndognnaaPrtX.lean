/- The height of all lines, in the program and in the reference, walked. Condition: the parts can be read, in the program: and are no more than their room. -/
import Derived.Test.YtpkajdnndognnaaPrtD
import Derived.Test.YtpkajdnndognnaaPrtG
import Derived.Test.YtpkajdnndognnaaSumG
import Derived.Test.YtpkajdnndognnaaShareM
namespace Go.Proofs.Ytpkajdnndognnaa
open Go.RowKit

theorem htL_sml {zs : List Int} {n : Nat} {wd gap : Int} (hv : prsB n zs = true) : Sml (htL zs n wd gap (nl zs n wd gap)) := by
  intro z hz
  obtain ⟨i, hi, rfl⟩ := List.mem_map.1 hz
  have := lnH_bd hv (List.mem_range.1 hi)
  omega
theorem htL_sum {zs : List Int} {n : Nat} {wd gap : Int} (hv : prsB n zs = true) : 0 ≤ (htL zs n wd gap (nl zs n wd gap)).sum ∧ (htL zs n wd gap (nl zs n wd gap)).sum ≤ 120000 := by
  have n12 := n_le hv
  have NL := nl_le (zs := zs) (n := n) (wd := wd) (gap := gap)
  have m : ∀ z ∈ htL zs n wd gap (nl zs n wd gap), 0 ≤ z ∧ z ≤ 10000 := by
    intro z hz
    obtain ⟨i, hi, rfl⟩ := List.mem_map.1 hz
    exact lnH_bd hv (List.mem_range.1 hi)
  have a := sum_nonneg (xs := htL zs n wd gap (nl zs n wd gap)) fun z hz => (m z hz).1
  have b := sumL_le (xs := htL zs n wd gap (nl zs n wd gap)) (M := 10000) fun z hz => (m z hz).2
  rw [htL_len] at b
  omega
set_option maxHeartbeats 4000000 in
theorem WrapHeight_any (A : Option Addr) (n c : Nat) (zs : List Int) (wd gap : Int) (hn : n ≤ 1048576) (hnc : n ≤ c) (w : World) (hx : Sts 2 w A n zs) :
    Calls Try.prog 31 #[.slice A n c, .int .i64 wd, .int .i64 gap] w fun e w' => e = .returned (.int .i64 (whA zs n wd gap)) ∧ New w w' := by
  have CV := Lib.hid (validLines_any A n c zs wd gap hn w hx)
  cases hv : wrOk zs n wd gap
  · have E : whA zs n wd gap = -1 := by rw [whA, hv]; rfl
    rw [E]
    clear E hx
    go_enter Try.func31, Try.ntmps31
    go_wp2_with (go_at_call 50; refine CV.out.mono ?_; rw [hv]; rintro e w1 ⟨rfl, N1⟩; have N1 := Lib.hid N1)
    go_ret
    exact ⟨rfl, N1.out⟩
  · obtain ⟨hv1, hw, hg⟩ := wrOk_iff.1 hv
    have n12 := n_le hv1
    have NL := nl_le (zs := zs) (n := n) (wd := wd) (gap := gap)
    have HL := htL_len (zs := zs) (n := n) (wd := wd) (gap := gap) (nl zs n wd gap)
    have CT : Hid (∀ W, New w W → Calls Try.prog 22 #[.slice A n c, .int .i64 wd, .int .i64 gap] W (Ans W (htL zs n wd gap (nl zs n wd gap)))) := Lib.hid (fun W hW => by
      have h := LineHeights_any A n c zs wd gap hn hnc W (hx.new hW)
      rw [lhA, if_pos hv] at h
      exact h)
    have SM := Lib.hid (htL_sml (wd := wd) (gap := gap) hv1)
    rw [whA, if_pos hv]
    generalize htL zs n wd gap (nl zs n wd gap) = hs at *
    clear hx
    go_enter Try.func31, Try.ntmps31
    go_wp2_with (first
      | (go_at_call 50; refine CV.out.mono ?_; rw [hv]; rintro e w1 ⟨rfl, N1⟩; have N1 := Lib.hid N1)
      | (go_at_call 22; refine (CT.out _ N1.out).mono ?_; rintro e w2 ⟨A2, n2, c2, rfl, hL, r2, N2⟩; have N2 := Lib.hid N2; have I2 := Lib.hid (r2.ints hL); have n2' : n2 ≤ 100 := by omega)
      | (go_at_call 51; refine (sumWithGaps_any A2 n2 c2 hs gap n2' hg _ I2.out SM.out).mono ?_; rintro e w' ⟨rfl, rfl⟩))
    go_ret
    exact ⟨rfl, N1.out.trans N2.out⟩
set_option maxHeartbeats 4000000 in
theorem SWrapHeight_any (A : Option Addr) (n c : Nat) (zs : List Int) (wd gap : Int) (hn : n ≤ 1048576) (w : World) (hx : Sts 2 w A n zs) :
    Calls Try.prog 32 #[.slice A n c, .int .i64 wd, .int .i64 gap] w fun e w' => e = .returned (.int .i64 (whA zs n wd gap)) ∧ New w w' := by
  have CV := Lib.hid (validWrap_any A n c zs wd gap hn w hx)
  cases hv : wrOk zs n wd gap
  · have E : whA zs n wd gap = -1 := by rw [whA, hv]; rfl
    rw [E]
    clear E hx
    go_enter Try.func32, Try.ntmps32
    go_wp2_with (go_at_call 40; refine CV.out.mono ?_; rw [hv]; rintro e w1 ⟨rfl, N1⟩; have N1 := Lib.hid N1)
    go_ret
    exact ⟨rfl, N1.out⟩
  · obtain ⟨hv1, hw, hg⟩ := wrOk_iff.1 hv
    have n12 := n_le hv1
    have NL := nl_le (zs := zs) (n := n) (wd := wd) (gap := gap)
    have HL := htL_len (zs := zs) (n := n) (wd := wd) (gap := gap) (nl zs n wd gap)
    have CT : Hid (∀ W, New w W → Calls Try.prog 25 #[.slice A n c, .int .i64 wd, .int .i64 gap] W (Ans W (htL zs n wd gap (nl zs n wd gap)))) := Lib.hid (fun W hW => by
      have h := SLineHeights_ans A n c zs wd gap hn W (hx.new hW)
      rw [lhA, if_pos hv] at h
      exact h)
    have SM := Lib.hid (htL_sml (wd := wd) (gap := gap) hv1)
    have SB := htL_sum (wd := wd) (gap := gap) hv1
    have GE : Hid (gapSum (htL zs n wd gap (nl zs n wd gap)) gap = (htL zs n wd gap (nl zs n wd gap)).sum + gap * mx 0 ((nl zs n wd gap : Int) - 1)) := Lib.hid (by unfold gapSum; rw [htL_len])
    obtain ⟨m, hm⟩ : ∃ m, m = mx 0 ((nl zs n wd gap : Int) - 1) := ⟨_, rfl⟩
    have mb : 0 ≤ m ∧ m ≤ 12 := by rw [hm]; unfold mx; omega
    have gm : 0 ≤ gap * m ∧ gap * m ≤ 600 := ⟨Int.mul_nonneg hg.1 mb.1, Int.le_trans (Int.mul_le_mul hg.2 mb.2 mb.1 (by omega)) (by omega)⟩
    rw [← hm] at GE
    rw [whA, if_pos hv, GE.out]
    generalize htL zs n wd gap (nl zs n wd gap) = hs at *
    generalize nl zs n wd gap = N at *
    have s1 : IntKind.i64.wrap ((N : Int) - 1) = (N : Int) - 1 := IntWalk.i64_in _ (by omega)
    have s2 : IntKind.i64.wrap (gap * m) = gap * m := IntWalk.i64_in _ (by omega)
    have s3 : IntKind.i64.wrap (hs.sum + gap * m) = hs.sum + gap * m := IntWalk.i64_in _ (by omega)
    have hmx : ∀ (W : World) (ts : Array TypeId) (t : TypeId), (Builtin.max_ ts t #[.int .i64 0, .int .i64 ((N : Int) - 1)]).run Try.prog W = .ok (.int .i64 m) W := fun W ts t => by rw [hm]; exact run_mx Try.prog W ts t _ _
    clear hx hm
    go_enter Try.func32, Try.ntmps32
    go_wp2_with (first
      | (go_at_call 40; refine CV.out.mono ?_; rw [hv]; rintro e w1 ⟨rfl, N1⟩; have N1 := Lib.hid N1)
      | (go_at_call 25; refine (CT.out _ N1.out).mono ?_; rintro e w2 ⟨A2, n2, c2, rfl, hL, r2, N2⟩; have N2 := Lib.hid N2; have I2 := Lib.hid (r2.ints hL); (obtain rfl : n2 = N := hL.symm.trans HL); have n2' : n2 ≤ 100 := by omega)
      | (go_at_call 52; refine (ssum_any A2 n2 c2 hs n2' _ I2.out SM.out).mono ?_; rintro e w' ⟨rfl, rfl⟩))
    go_ret
    exact ⟨rfl, N1.out.trans N2.out⟩
end Go.Proofs.Ytpkajdnndognnaa
