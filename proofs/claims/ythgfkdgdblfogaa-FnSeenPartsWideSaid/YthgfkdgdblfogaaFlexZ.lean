/- FlexSizes and LeftOver of the program and of the reference, walked: both answer as the plain functions do. Condition: the sizes can be read. -/
import Derived.Test.YthgfkdgdblfogaaFlexR
import Derived.Lib.SliceRun
namespace Go.Proofs.Ythgfkdgdblfogaa
open Go.RowKit

theorem flOkA_iff {n : Nat} {zs : List Int} {s : Int} : flOkA n zs s = true ↔ flsB n zs = true ∧ (0 ≤ s ∧ s ≤ 200000) := by
  unfold flOkA
  rw [Bool.and_eq_true, decide_eq_true_eq]
theorem FlexSizes_yes (A : Option Addr) (n c : Nat) (zs : List Int) (s : Int) (hv : flsB n zs = true) (hs : 0 ≤ s ∧ s ≤ 200000) (w : World) (hx : Sts 5 w A n zs) :
    Calls Try.prog 26 #[.slice A n c, .int .i64 s] w (Ans w (flexL n zs s)) := by
  by_cases hl : 0 ≤ s - (colL n zs 0).sum
  · exact FlexSizes_grow A n c zs s hv hs hl w hx
  · exact FlexSizes_shrink A n c zs s hv hs hl w hx
set_option maxRecDepth 100000 in
set_option maxHeartbeats 1000000 in
theorem FlexSizes_no (A : Option Addr) (n c : Nat) (zs : List Int) (s : Int) (hn : n ≤ 1048576) (h : flOkA n zs s = false) (w : World) (hx : Sts 5 w A n zs) :
    Calls Try.prog 26 #[.slice A n c, .int .i64 s] w fun e w' => e = .returned (.slice none 0 0) ∧ New w w' := by
  have HX := Lib.hid hx
  clear hx
  cases hv : flsB n zs
  · have HV := Lib.hid hv
    clear hv h
    go_enter Try.func26, Try.ntmps26
    go_wp2_with (go_at_call 31; refine (ValidFlexes_any A n c zs hn _ HX.out).mono ?_; rw [HV.out]; rintro e w1 ⟨rfl, N1⟩)
    go_ret
    exact ⟨rfl, N1⟩
  · have d1 : decide (0 ≤ s ∧ s ≤ 200000) = false := by
      unfold flOkA at h
      rw [hv, Bool.true_and] at h
      exact h
    have HV := Lib.hid hv
    clear hv h
    go_enter Try.func26, Try.ntmps26
    go_wp2_with (first
      | (go_at_call 31; refine (ValidFlexes_any A n c zs hn _ HX.out).mono ?_; rw [HV.out]; rintro e w1 ⟨rfl, N1⟩)
      | (go_at_call 35; refine (within_any _ _ _ _).mono ?_; rw [d1]; rintro e w' ⟨rfl, rfl⟩))
    go_ret
    exact ⟨rfl, N1⟩
theorem FlexSizes_ans (zs : List Int) (s : Int) (A : Option Addr) (n c : Nat) (w : World) (hx : Sts 5 w A n zs) (hn : n ≤ 1048576) :
    Calls Try.prog 26 #[.slice A n c, .int .i64 s] w (Ans w (flexA n zs s)) := by
  unfold flexA
  cases h : flOkA n zs s
  · rw [if_neg (by decide)]
    exact (FlexSizes_no A n c zs s hn h w hx).mono fun _ _ h => Ans.none_ h.1 h.2
  · rw [if_pos rfl]
    obtain ⟨hv, hs⟩ := flOkA_iff.1 h
    exact FlexSizes_yes A n c zs s hv hs w hx
set_option maxRecDepth 100000 in
set_option maxHeartbeats 1000000 in
theorem SFlexSizes_ans (zs : List Int) (s : Int) (A : Option Addr) (n c : Nat) (w : World) (hx : Sts 5 w A n zs) (hn : n ≤ 1048576) :
    Calls Try.prog 27 #[.slice A n c, .int .i64 s] w (Ans w (flexA n zs s)) := by
  have HX := Lib.hid hx
  clear hx
  cases hv : flsB n zs
  · have HV := Lib.hid hv
    have e : flexA n zs s = [] := by unfold flexA flOkA; rw [hv]; rfl
    rw [e]
    clear hv e
    go_enter Try.func27, Try.ntmps27
    go_wp2_with (go_at_call 44; refine (svalidFlexes_any A n c zs hn _ HX.out).mono ?_; rw [HV.out]; rintro e w1 ⟨rfl, N1⟩)
    go_ret
    exact Ans.none_ rfl N1
  · cases d1 : decide (0 ≤ s ∧ s ≤ 200000)
    · have HV := Lib.hid hv
      have e : flexA n zs s = [] := by unfold flexA flOkA; rw [hv, d1]; rfl
      rw [e]
      clear hv e
      go_enter Try.func27, Try.ntmps27
      go_wp2_with (first
        | (go_at_call 44; refine (svalidFlexes_any A n c zs hn _ HX.out).mono ?_; rw [HV.out]; rintro e w1 ⟨rfl, N1⟩)
        | (go_at_call 33; refine (inRange_any _ _ _ _).mono ?_; rw [d1]; rintro e w' ⟨rfl, rfl⟩))
      go_ret
      exact Ans.none_ rfl N1
    · have e : flexA n zs s = flexL n zs s := by unfold flexA flOkA; rw [hv, d1]; rfl
      rw [e]
      have con := Lib.hid (fun (W : World) (h : Sts 5 W A n zs) => sflex_any A n c zs s hv (of_decide_eq_true d1) W h)
      have HV := Lib.hid hv
      generalize flexL n zs s = ys at *
      clear hv e
      go_enter Try.func27, Try.ntmps27
      go_wp2_with (first
        | (go_at_call 44; refine (svalidFlexes_any A n c zs hn _ HX.out).mono ?_; rw [HV.out]; rintro e w1 ⟨rfl, N1⟩)
        | (go_at_call 33; refine (inRange_any _ _ _ _).mono ?_; rw [d1]; rintro e w' ⟨rfl, rfl⟩))
      (replace N1 := Lib.hid N1)
      go_wp2_with fail
      refine (con.out _ (HX.out.new N1.out)).mono ?_
      rintro e w2 ⟨A2, n2, c2, rfl, l2, R2, N2⟩
      go_wp2
      go_ret
      exact ⟨A2, n2, c2, rfl, l2, ⟨R2.1, fun h => by obtain ⟨g, e, h1, h2, h3⟩ := R2.2 h; exact ⟨g, e, Nat.le_trans N1.out.le h1, h2, h3⟩⟩, N1.out.trans N2⟩
theorem flexA_len (n : Nat) (zs : List Int) (s : Int) : (flexA n zs s).length ≤ 8 := by
  unfold flexA
  split
  · next h => rw [flexL_len]; exact (flsB_iff.1 (flOkA_iff.1 h).1).1.2
  · simp
theorem flexL_bd {n : Nat} {zs : List Int} {s : Int} (hv : flsB n zs = true) (hs : 0 ≤ s ∧ s ≤ 200000) (i : Nat) (hi : i < n) : zs.getD (i * 5 + 1) 0 ≤ (flexL n zs s).getD i 0 ∧ (flexL n zs s).getD i 0 ≤ zs.getD (i * 5 + 2) 0 := by
  have hk := flOk_iff.1 ((flsB_iff.1 hv).2 i hi)
  by_cases hl : 0 ≤ s - (colL n zs 0).sum
  · obtain ⟨⟨a', h1⟩, h2⟩ := (Rm.grow hv hs hl).fin
    rw [flexL_at_grow hl hi]
    have h3 := h1.rb i hi
    have h4 := h2 i hi
    rw [roomG_at hi] at h4
    omega
  · obtain ⟨⟨a', h1⟩, h2⟩ := (Rm.shrink hv hs hl).fin
    rw [flexL_at_shrink hl hi]
    have h3 := h1.rb i hi
    have h4 := h2 i hi
    rw [roomS_at hi] at h4
    omega
theorem flexL_sml {n : Nat} {zs : List Int} {s : Int} (hv : flsB n zs = true) (hs : 0 ≤ s ∧ s ≤ 200000) : Sml (flexL n zs s) := all_at (P := fun z => -1000000000 ≤ z ∧ z ≤ 1000000000) fun i hi => by
  rw [flexL_len] at hi
  have h1 := flexL_bd hv hs i hi
  have h2 := flOk_iff.1 ((flsB_iff.1 hv).2 i hi)
  omega
/-- What is left of a space. -/
def leftO (n : Nat) (zs : List Int) (s : Int) : Int := if flOkA n zs s = true then s - (flexL n zs s).sum else 0
set_option maxRecDepth 100000 in
set_option maxHeartbeats 2000000 in
theorem LeftOver_any (zs : List Int) (s : Int) (A : Option Addr) (n c : Nat) (w : World) (hx : Sts 5 w A n zs) (hn : n ≤ 1048576) :
    Calls Try.prog 29 #[.slice A n c, .int .i64 s] w fun e w' => e = .returned (.int .i64 (leftO n zs s)) ∧ New w w' := by
  cases h : flOkA n zs s
  · have e : leftO n zs s = 0 := by unfold leftO; rw [h]; rfl
    rw [e]
    have con := Lib.hid (FlexSizes_no A n c zs s hn h w hx)
    clear h e hx
    have hnil := fun (W : World) (a : Option Addr) (n c : Nat) => Go.Lib.run_eql_slice_nil (P := Try.prog) W 22 3 a n c 0 0 Try.underlying22
    go_enter Try.func29, Try.ntmps29
    go_wp2_with (go_at_call 26; refine con.out.mono ?_; rintro e w2 ⟨rfl, N2⟩)
    go_ret
    exact ⟨rfl, N2⟩
  · obtain ⟨hv, hs⟩ := flOkA_iff.1 h
    have e : leftO n zs s = s - (flexL n zs s).sum := by unfold leftO; rw [h]; rfl
    rw [e]
    have con := Lib.hid (FlexSizes_yes A n c zs s hv hs w hx)
    have sm := flexL_sml hv hs
    have sb := sum_bd sm n
    rw [List.take_of_length_le (by rw [flexL_len]; exact Nat.le_refl _)] at sb
    have SM := Lib.hid sm; have FLN := Lib.hid (flexL_len n zs s)
    have n8 := (flsB_iff.1 hv).1.2
    have n1 := (flsB_iff.1 hv).1.1
    obtain ⟨hs0, hs1⟩ := hs
    clear h e hx sm hv
    generalize flexL n zs s = ys at *
    generalize hS : ys.sum = S at *
    have HS := Lib.hid hS
    have sb1 : -8000000000 ≤ S ∧ S ≤ 8000000000 := by omega
    obtain ⟨sb2, sb3⟩ := sb1
    clear hS sb
    have hnil := fun (W : World) (a : Option Addr) (n c : Nat) => Go.Lib.run_eql_slice_nil (P := Try.prog) W 22 3 a n c 0 0 Try.underlying22
    go_enter Try.func29, Try.ntmps29
    go_wp2_with fail
    refine con.out.mono ?_
    rintro e w2 ⟨A2, n2, c2, rfl, l2, R2, N2⟩
    obtain rfl : n = n2 := by have := FLN.out; omega
    have I2 := Lib.hid (R2.ints FLN.out)
    obtain ⟨g2, rfl, _, _, _⟩ := R2.2 (by have := FLN.out; omega)
    replace N2 := Lib.hid N2
    clear R2 l2
    go_wp2_with (go_at_call 46; refine (sumOf_any _ n c2 ys (by omega) _ I2.out SM.out).mono ?_; rw [HS.out]; rintro e w' ⟨rfl, rfl⟩)
    go_ret
    exact ⟨rfl, N2.out⟩
set_option maxRecDepth 100000 in
set_option maxHeartbeats 2000000 in
theorem SLeftOver_any (zs : List Int) (s : Int) (A : Option Addr) (n c : Nat) (w : World) (hx : Sts 5 w A n zs) (hn : n ≤ 1048576) :
    Calls Try.prog 30 #[.slice A n c, .int .i64 s] w fun e w' => e = .returned (.int .i64 (leftO n zs s)) ∧ New w w' := by
  have HX := Lib.hid hx
  cases hv : flsB n zs
  · have HV := Lib.hid hv
    have e : leftO n zs s = 0 := by unfold leftO flOkA; rw [hv]; rfl
    rw [e]
    clear hv e hx
    go_enter Try.func30, Try.ntmps30
    go_wp2_with (go_at_call 44; refine (svalidFlexes_any A n c zs hn _ HX.out).mono ?_; rw [HV.out]; rintro e w1 ⟨rfl, N1⟩)
    go_ret
    exact ⟨rfl, N1⟩
  · cases d1 : decide (0 ≤ s ∧ s ≤ 200000)
    · have HV := Lib.hid hv
      have e : leftO n zs s = 0 := by unfold leftO flOkA; rw [hv, d1]; rfl
      rw [e]
      clear hv e hx
      go_enter Try.func30, Try.ntmps30
      go_wp2_with (first
        | (go_at_call 44; refine (svalidFlexes_any A n c zs hn _ HX.out).mono ?_; rw [HV.out]; rintro e w1 ⟨rfl, N1⟩)
        | (go_at_call 33; refine (inRange_any _ _ _ _).mono ?_; rw [d1]; rintro e w' ⟨rfl, rfl⟩))
      go_ret
      exact ⟨rfl, N1⟩
    · have hs := of_decide_eq_true d1
      have e : leftO n zs s = s - (flexL n zs s).sum := by unfold leftO flOkA; rw [hv, d1]; rfl
      rw [e]
      have con := Lib.hid (fun (W : World) (h : Sts 5 W A n zs) => sflex_any A n c zs s hv hs W h)
      have sm := flexL_sml hv hs
      have sb := sum_bd sm n
      rw [List.take_of_length_le (by rw [flexL_len]; exact Nat.le_refl _)] at sb
      have SM := Lib.hid sm; have FLN := Lib.hid (flexL_len n zs s)
      have n8 := (flsB_iff.1 hv).1.2
      have HV := Lib.hid hv
      obtain ⟨hs0, hs1⟩ := hs
      clear e hx sm hv
      generalize flexL n zs s = ys at *
      generalize hS : ys.sum = S at *
      have HS := Lib.hid hS
      have sb1 : -8000000000 ≤ S ∧ S ≤ 8000000000 := by omega
      obtain ⟨sb2, sb3⟩ := sb1
      clear hS sb
      go_enter Try.func30, Try.ntmps30
      go_wp2_with (first
        | (go_at_call 44; refine (svalidFlexes_any A n c zs hn _ HX.out).mono ?_; rw [HV.out]; rintro e w1 ⟨rfl, N1⟩; (replace N1 := Lib.hid N1))
        | (go_at_call 33; refine (inRange_any _ _ _ _).mono ?_; rw [d1]; rintro e w' ⟨rfl, rfl⟩))
      go_wp2_with fail
      refine (con.out _ (HX.out.new N1.out)).mono ?_
      rintro e w2 ⟨A2, n2, c2, rfl, l2, R2, N2⟩
      obtain rfl : n = n2 := by have := FLN.out; omega
      have I2 := Lib.hid (R2.ints FLN.out)
      have NN := Lib.hid (N1.out.trans N2)
      clear R2 l2 N2
      go_wp2_with (go_at_call 47; refine (ssum_any _ n c2 ys (by omega) _ I2.out SM.out).mono ?_; rw [HS.out]; rintro e w' ⟨rfl, rfl⟩)
      go_ret
      exact ⟨rfl, NN.out⟩
end Go.Proofs.Ythgfkdgdblfogaa
