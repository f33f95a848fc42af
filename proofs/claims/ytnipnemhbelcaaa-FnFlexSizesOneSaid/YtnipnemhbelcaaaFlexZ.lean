/- FlexSizes and LeftOver of the program and of the reference, walked: both answer as the plain functions do. Condition: the sizes can be read. -/
import Derived.Test.YtnipnemhbelcaaaFlexR
import Derived.Lib.SliceRun
namespace Go.Proofs.Ytnipnemhbelcaaa
open Go.RowKit

theorem flOkA_iff {n : Nat} {zs : List Int} {s : Int} : flOkA n zs s = true ↔ flsB n zs = true ∧ (0 ≤ s ∧ s ≤ 200000) := by
  unfold flOkA
  rw [Bool.and_eq_true, decide_eq_true_eq]
theorem FlexSizes_yes (A : Option Addr) (n c : Nat) (zs : List Int) (s : Int) (hv : flsB n zs = true) (hs : 0 ≤ s ∧ s ≤ 200000) (w : World) (hx : Sts 5 w A n zs) :
    Calls Try.prog 18 #[.slice A n c, .int .i64 s] w (Ans w (flexL n zs s)) := by
  by_cases hl : 0 ≤ s - (colL n zs 0).sum
  · exact FlexSizes_grow A n c zs s hv hs hl w hx
  · exact FlexSizes_shrink A n c zs s hv hs hl w hx
set_option maxRecDepth 100000 in
set_option maxHeartbeats 1000000 in
theorem FlexSizes_no (A : Option Addr) (n c : Nat) (zs : List Int) (s : Int) (hn : n ≤ 1048576) (h : flOkA n zs s = false) (w : World) (hx : Sts 5 w A n zs) :
    Calls Try.prog 18 #[.slice A n c, .int .i64 s] w fun e w' => e = .returned (.slice none 0 0) ∧ New w w' := by
  have HX := Lib.hid hx
  clear hx
  cases hv : flsB n zs
  · have HV := Lib.hid hv
    clear hv h
    go_enter Try.func18, Try.ntmps18
    go_wp2_with (go_at_call 37; refine (ValidFlexes_any A n c zs hn _ HX.out).mono ?_; rw [HV.out]; rintro e w1 ⟨rfl, N1⟩)
    go_ret
    exact ⟨rfl, N1⟩
  · have d1 : decide (0 ≤ s ∧ s ≤ 200000) = false := by
      unfold flOkA at h
      rw [hv, Bool.true_and] at h
      exact h
    have HV := Lib.hid hv
    clear hv h
    go_enter Try.func18, Try.ntmps18
    go_wp2_with (first
      | (go_at_call 37; refine (ValidFlexes_any A n c zs hn _ HX.out).mono ?_; rw [HV.out]; rintro e w1 ⟨rfl, N1⟩)
      | (go_at_call 38; refine (within_any _ _ _ _).mono ?_; rw [d1]; rintro e w' ⟨rfl, rfl⟩))
    go_ret
    exact ⟨rfl, N1⟩
theorem FlexSizes_ans (zs : List Int) (s : Int) (A : Option Addr) (n c : Nat) (w : World) (hx : Sts 5 w A n zs) (hn : n ≤ 1048576) :
    Calls Try.prog 18 #[.slice A n c, .int .i64 s] w (Ans w (flexA n zs s)) := by
  unfold flexA
  cases h : flOkA n zs s
  · rw [if_neg (by decide)]
    exact (FlexSizes_no A n c zs s hn h w hx).mono fun _ _ h => Ans.none_ h.1 h.2
  · rw [if_pos rfl]
    obtain ⟨hv, hs⟩ := flOkA_iff.1 h
    exact FlexSizes_yes A n c zs s hv hs w hx
set_option maxRecDepth 100000 in
set_option maxHeartbeats 1000000 in
theorem SFlexSizes_ans (zs : List Int) (s : Int) (A : Option Addr) (n c : Nat) (w : World) (hx : Sts 5 w A n zs) (hn : n ≤ 1048576) :
    Calls Try.prog 20 #[.slice A n c, .int .i64 s] w (Ans w (flexA n zs s)) := by
  have HX := Lib.hid hx
  clear hx
  cases hv : flsB n zs
  · have HV := Lib.hid hv
    have e : flexA n zs s = [] := by unfold flexA flOkA; rw [hv]; rfl
    rw [e]
    clear hv e
    go_enter Try.func20, Try.ntmps20
    go_wp2_with (go_at_call 42; refine (svalidFlexes_any A n c zs hn _ HX.out).mono ?_; rw [HV.out]; rintro e w1 ⟨rfl, N1⟩)
    go_ret
    exact Ans.none_ rfl N1
  · cases d1 : decide (0 ≤ s ∧ s ≤ 200000)
    · have HV := Lib.hid hv
      have e : flexA n zs s = [] := by unfold flexA flOkA; rw [hv, d1]; rfl
      rw [e]
      clear hv e
      go_enter Try.func20, Try.ntmps20
      go_wp2_with (first
        | (go_at_call 42; refine (svalidFlexes_any A n c zs hn _ HX.out).mono ?_; rw [HV.out]; rintro e w1 ⟨rfl, N1⟩)
        | (go_at_call 43; refine (inRange_any _ _ _ _).mono ?_; rw [d1]; rintro e w' ⟨rfl, rfl⟩))
      go_ret
      exact Ans.none_ rfl N1
    · have e : flexA n zs s = flexL n zs s := by unfold flexA flOkA; rw [hv, d1]; rfl
      rw [e]
      have con := Lib.hid (fun (W : World) (h : Sts 5 W A n zs) => sflex_any A n c zs s hv (of_decide_eq_true d1) W h)
      have HV := Lib.hid hv
      generalize flexL n zs s = ys at *
      clear hv e
      go_enter Try.func20, Try.ntmps20
      go_wp2_with (first
        | (go_at_call 42; refine (svalidFlexes_any A n c zs hn _ HX.out).mono ?_; rw [HV.out]; rintro e w1 ⟨rfl, N1⟩)
        | (go_at_call 43; refine (inRange_any _ _ _ _).mono ?_; rw [d1]; rintro e w' ⟨rfl, rfl⟩))
      (replace N1 := Lib.hid N1)
      go_wp2_with fail
      refine (con.out _ (HX.out.new N1.out)).mono ?_
      rintro e w2 ⟨A2, n2, c2, rfl, l2, R2, N2⟩
      go_wp2
      go_ret
      exact ⟨A2, n2, c2, rfl, l2, ⟨R2.1, fun h => by obtain ⟨g, e, h1, h2, h3⟩ := R2.2 h; exact ⟨g, e, Nat.le_trans N1.out.le h1, h2, h3⟩⟩, N1.out.trans N2⟩
theorem flexA_len (n : Nat) (zs : List Int) (s : Int) : (flexA n zs s).length ≤ 8 := by
  unfold flexA
  split
  · next h => rw [flexL_len]; exact (flsB_iff.1 (flOkA_iff.1 h).1).1.2
  · simp
theorem flexL_bd {n : Nat} {zs : List Int} {s : Int} (hv : flsB n zs = true) (hs : 0 ≤ s ∧ s ≤ 200000) (i : Nat) (hi : i < n) : zs.getD (i * 5 + 1) 0 ≤ (flexL n zs s).getD i 0 ∧ (flexL n zs s).getD i 0 ≤ zs.getD (i * 5 + 2) 0 := by
  have hk := flOk_iff.1 ((flsB_iff.1 hv).2 i hi)
  by_cases hl : 0 ≤ s - (colL n zs 0).sum
  · obtain ⟨⟨a', h1⟩, h2⟩ := (Rm.grow hv hs hl).fin
    rw [flexL_at_grow hl hi]
    have h3 := h1.rb i hi
    have h4 := h2 i hi
    rw [roomG_at hi] at h4
    omega
  · obtain ⟨⟨a', h1⟩, h2⟩ := (Rm.shrink hv hs hl).fin
    rw [flexL_at_shrink hl hi]
    have h3 := h1.rb i hi
    have h4 := h2 i hi
    rw [roomS_at hi] at h4
    omega
theorem flexL_sml {n : Nat} {zs : List Int} {s : Int} (hv : flsB n zs = true) (hs : 0 ≤ s ∧ s ≤ 200000) : Sml (flexL n zs s) := all_at (P := fun z => -1000000000 ≤ z ∧ z ≤ 1000000000) fun i hi => by
  rw [flexL_len] at hi
  have h1 := flexL_bd hv hs i hi
  have h2 := flOk_iff.1 ((flsB_iff.1 hv).2 i hi)
  omega
/-- What is left of a space. -/
def leftO (n : Nat) (zs : List Int) (s : Int) : Int := if flOkA n zs s = true then s - (flexL n zs s).sum else 0
end Go.Proofs.Ytnipnemhbelcaaa
