/- ValidTree, KidsOf, DepthOf, IsAround, CountIn of the program and of the reference, walked: both answer as the plain functions do. Condition: the tree can be read. -/
import Derived.Test.YtnihklilappimaaTreeC
import Derived.Test.YtnihklilappimaaTreeT
namespace Go.Proofs.Ytnihklilappimaa
open Go.RowKit

theorem run_neq_slice_nil {P : Program} (w : World) (t e : TypeId) (a : Option Addr) (n c n' c' : Nat) (h : P.underlying t = some (.slice e)) :
    (binOp .neq t (.slice a n c) (.slice none n' c')).run P w = .ok (.bool (!a.isNone)) w := by
  simp only [binOp]
  simp [Op.equal, Op.maxDepth, Go.Lib.run_equalIn_slice_nil w 9999 t e a n c n' c' h]
def kidsA (n : Nat) (zs : List Int) (at_ : Int) : List Int := if nodeOk n zs at_ = true then (kidL zs n at_.toNat).map Int.ofNat else []
def depA (n : Nat) (zs : List Int) (at_ : Int) : Int := if nodeOk n zs at_ = true then (dep zs at_.toNat : Int) else -1
def cntA (n : Nat) (zs : List Int) (at_ : Int) : Int := if nodeOk n zs at_ = true then (en zs n at_.toNat : Int) - at_ else -1
def arA (n : Nat) (zs : List Int) (at_ inner : Int) : Bool := nodeOk n zs at_ && nodeOk n zs inner && anc zs at_.toNat inner.toNat
theorem kidsA_len (n : Nat) (zs : List Int) (at_ : Int) : (kidsA n zs at_).length ≤ 16 := by
  unfold kidsA
  split
  · next h =>
    obtain ⟨h1, i, rfl, hi⟩ := nodeOk_iff.1 h
    rw [List.length_map]
    have h2 := (vtB_iff.1 h1).1
    have : (kidL zs n (i : Int).toNat).length ≤ n := by unfold kidL; have := List.length_filter_le (fun j => decide (par zs j = (((i : Int).toNat : Nat) : Int))) (List.range n); simpa using this
    omega
  · simp
theorem Ans.own {w w' : World} {v : Value} {zs : List Int} {e : Ending} (he : e = .returned v) (h : Own w.heap.size w' v zs) (hN : New w w') : Ans w zs e w' := by
  obtain ⟨A, c, rfl, _, hR⟩ := h.res
  exact ⟨A, zs.length, c, he, rfl, hR, hN⟩
set_option maxHeartbeats 1000000 in
theorem ValidTree_any (A : Option Addr) (n c : Nat) (zs : List Int) (hn : n ≤ 1048576) (w : World) (hx : Sts 9 w A n zs) :
    Calls Try.prog 34 #[.slice A n c] w fun e w' => e = .returned (.bool (vtB n zs)) ∧ New w w' := by
  have HX := Lib.hid hx
  clear hx
  have hnil := fun (W : World) (a : Option Addr) (n c : Nat) => run_neq_slice_nil (P := Try.prog) W 68 45 a n c 0 0 Try.underlying68
  go_enter Try.func34, Try.ntmps34
  go_wp2_with fail
  refine (linkTree_any A n c zs hn _ HX.out).mono ?_
  rintro e w1 ⟨N1, ⟨hv, rfl⟩ | ⟨hv, g, nb, ar, fi, la, ne, rfl, hg, _, _⟩⟩
  all_goals
    have N1' := Lib.hid N1
    have HV := Lib.hid hv
    clear N1 hv
    go_wp2
    go_ret
    exact ⟨by rw [HV.out]; rfl, N1'.out⟩
set_option maxHeartbeats 1000000 in
theorem KidsOf_ans (A : Option Addr) (n c : Nat) (zs : List Int) (at_ : Int) (hn : n ≤ 1048576) (w : World) (hx : Sts 9 w A n zs) :
    Calls Try.prog 32 #[.slice A n c, .int .i64 at_] w (Ans w (kidsA n zs at_)) := by
  have HX := Lib.hid hx
  cases hok : nodeOk n zs at_
  · have e1 : kidsA n zs at_ = [] := by unfold kidsA; rw [hok]; rfl
    have E1 := Lib.hid e1
    have CT := Lib.hid (nodeAt_no A n c zs at_ hn hok w hx)
    clear hok e1 hx
    go_enter Try.func32, Try.ntmps32
    go_wp2_with (go_at_call 38; refine CT.out.mono ?_; rintro e w1 ⟨rfl, h1⟩; (have N1 := Lib.hid h1); clear h1)
    go_ret
    rw [E1.out]
    exact Ans.none_ rfl N1.out
  · obtain ⟨hv, i, rfl, hi⟩ := nodeOk_iff.1 hok
    have hn16 := (vtB_iff.1 hv).1
    have e1 : kidsA n zs (i : Int) = (kidL zs n i).map Int.ofNat := by unfold kidsA; rw [if_pos hok, Int.toNat_natCast]
    have E1 := Lib.hid e1
    have CT := Lib.hid (nodeAt_yes A n c i zs hv hi w hx)
    clear hok e1 hx hv
    go_enter Try.func32, Try.ntmps32
    go_wp2_with fail
    refine CT.out.mono ?_
    rintro e w1 ⟨h1, nb, ar, fi, la, ne, rfl, h2⟩
    have N1 := Lib.hid h1; have L1 := Lib.hid h2
    clear h1 h2
    go_wp2_with fail
    refine (kids_any w.heap.size nb zs n i ar fi la ne hi _ L1.out).mono ?_
    rintro e w2 ⟨v, rfl, O2, N2⟩
    have O2 := Lib.hid O2; have N2 := Lib.hid N2
    go_wp2
    go_ret
    rw [E1.out]
    exact Ans.own (w' := w2) rfl (by
      obtain ⟨A1, c1, _, _⟩ := O2.out.res
      exact ⟨O2.out.1, O2.out.2.imp id (fun ⟨g, cap, cur, a1, a2, a3⟩ => ⟨g, cap, cur, a1, Nat.le_trans N1.out.le a2, a3⟩)⟩) (N1.out.trans N2.out)
set_option maxHeartbeats 1000000 in
theorem DepthOf_any (A : Option Addr) (n c : Nat) (zs : List Int) (at_ : Int) (hn : n ≤ 1048576) (w : World) (hx : Sts 9 w A n zs) :
    Calls Try.prog 12 #[.slice A n c, .int .i64 at_] w fun e w' => e = .returned (.int .i64 (depA n zs at_)) ∧ New w w' := by
  have HX := Lib.hid hx
  cases hok : nodeOk n zs at_
  · have e1 : depA n zs at_ = -1 := by unfold depA; rw [hok]; rfl
    have E1 := Lib.hid e1
    have CT := Lib.hid (nodeAt_no A n c zs at_ hn hok w hx)
    clear hok e1 hx
    go_enter Try.func12, Try.ntmps12
    go_wp2_with (go_at_call 38; refine CT.out.mono ?_; rintro e w1 ⟨rfl, h1⟩; (have N1 := Lib.hid h1); clear h1)
    go_ret
    exact ⟨by rw [E1.out]; rfl, N1.out⟩
  · obtain ⟨hv, i, rfl, hi⟩ := nodeOk_iff.1 hok
    have hn16 := (vtB_iff.1 hv).1
    have e1 : depA n zs (i : Int) = (dep zs i : Int) := by unfold depA; rw [if_pos hok, Int.toNat_natCast]
    have E1 := Lib.hid e1
    have CT := Lib.hid (nodeAt_yes A n c i zs hv hi w hx)
    clear hok e1 hx hv
    go_enter Try.func12, Try.ntmps12
    go_wp2_with fail
    refine CT.out.mono ?_
    rintro e w1 ⟨h1, nb, ar, fi, la, ne, rfl, h2⟩
    have N1 := Lib.hid h1; have L1 := Lib.hid h2
    clear h1 h2
    go_wp2_with (go_at_call 39; refine (depth_any w.heap.size nb zs n i ar fi la ne hi _ L1.out).mono ?_; rintro e w' ⟨rfl, rfl⟩)
    go_ret
    exact ⟨by rw [E1.out]; rfl, N1.out⟩
set_option maxHeartbeats 1000000 in
theorem CountIn_any (A : Option Addr) (n c : Nat) (zs : List Int) (at_ : Int) (hn : n ≤ 1048576) (w : World) (hx : Sts 9 w A n zs) :
    Calls Try.prog 31 #[.slice A n c, .int .i64 at_] w fun e w' => e = .returned (.int .i64 (cntA n zs at_)) ∧ New w w' := by
  have HX := Lib.hid hx
  cases hok : nodeOk n zs at_
  · have e1 : cntA n zs at_ = -1 := by unfold cntA; rw [hok]; rfl
    have E1 := Lib.hid e1
    have CT := Lib.hid (nodeAt_no A n c zs at_ hn hok w hx)
    clear hok e1 hx
    go_enter Try.func31, Try.ntmps31
    go_wp2_with (go_at_call 38; refine CT.out.mono ?_; rintro e w1 ⟨rfl, h1⟩; (have N1 := Lib.hid h1); clear h1)
    go_ret
    exact ⟨by rw [E1.out]; rfl, N1.out⟩
  · obtain ⟨hv, i, rfl, hi⟩ := nodeOk_iff.1 hok
    have hn16 := (vtB_iff.1 hv).1
    have e1 : cntA n zs (i : Int) = (en zs n i : Int) - (i : Int) := by unfold cntA; rw [if_pos hok, Int.toNat_natCast]
    have E1 := Lib.hid e1
    have CT := Lib.hid (nodeAt_yes A n c i zs hv hi w hx)
    clear hok e1 hx hv
    go_enter Try.func31, Try.ntmps31
    go_wp2_with fail
    refine CT.out.mono ?_
    rintro e w1 ⟨h1, nb, ar, fi, la, ne, rfl, h2⟩
    have N1 := Lib.hid h1; have L1 := Lib.hid h2
    clear h1 h2
    go_wp2_with (go_at_call 55; refine (count_any w.heap.size nb zs n ar fi la ne (n - i) i rfl hi _ L1.out).mono ?_; rintro e w' ⟨rfl, rfl⟩)
    go_ret
    exact ⟨by rw [E1.out]; rfl, N1.out⟩
set_option maxHeartbeats 1000000 in
theorem IsAround_any (A : Option Addr) (n c : Nat) (zs : List Int) (at_ inner : Int) (hn : n ≤ 1048576) (w : World) (hx : Sts 9 w A n zs) :
    Calls Try.prog 26 #[.slice A n c, .int .i64 at_, .int .i64 inner] w fun e w' => e = .returned (.bool (arA n zs at_ inner)) ∧ New w w' := by
  have HX := Lib.hid hx
  cases hok : nodeOk n zs inner
  · have e1 : arA n zs at_ inner = false := by unfold arA; rw [hok, Bool.and_false, Bool.false_and]
    have E1 := Lib.hid e1
    have CT := Lib.hid (nodeAt_no A n c zs inner hn hok w hx)
    clear hok e1 hx
    go_enter Try.func26, Try.ntmps26
    go_wp2_with fail
    refine CT.out.mono ?_
    rintro e w1 ⟨rfl, h1⟩
    have N1 := Lib.hid h1
    clear h1
    have OT := Lib.hid (outTo_any w1.heap.size (fun _ => 0) zs 0 none at_ (fun _ => none) (fun _ => none) (fun _ => none) (fun _ => none) (fun j h => by cases h) w1 (Lnk.nil _ _ _ _ _ _ _ _))
    go_wp2_with (go_at_call 51; refine OT.out.mono ?_; rintro e w' ⟨rfl, rfl⟩; rw [show pv (fun _ => 0) (outO zs at_ none) = .pointer none from rfl])
    go_ret
    exact ⟨by rw [E1.out]; rfl, N1.out⟩
  · obtain ⟨hv, i, rfl, hi⟩ := nodeOk_iff.1 hok
    have hn16 := (vtB_iff.1 hv).1
    have OT := Lib.hid (fun (lo : Nat) (nb : Nat → Nat) (ar fi la ne : Nat → Option Nat) (W : World) (h : Lnk lo W nb zs n ar fi la ne) => outTo_any lo nb zs n (some i) at_ ar fi la ne (fun j hj => by have := Option.some.inj hj; omega) W h)
    have CT := Lib.hid (nodeAt_yes A n c i zs hv hi w hx)
    by_cases hpa : 0 ≤ at_ ∧ anc zs at_.toNat i = true
    · have e1 : arA n zs at_ (i : Int) = true := by
        have := anc_le hpa.2
        unfold arA
        rw [hok, Int.toNat_natCast, hpa.2, Bool.and_true, Bool.and_true]
        exact nodeOk_iff.2 ⟨hv, at_.toNat, by omega, by omega⟩
      have E1 := Lib.hid e1
      have EO : Hid (outO zs at_ (some i) = some at_.toNat) := Lib.hid (if_pos hpa)
      clear hok e1 hx hv hpa
      go_enter Try.func26, Try.ntmps26
      go_wp2_with fail
      refine CT.out.mono ?_
      rintro e w1 ⟨h1, nb, ar, fi, la, ne, rfl, h2⟩
      have N1 := Lib.hid h1
      have OT1 := OT.out _ nb ar fi la ne w1 h2
      rw [EO.out, pv_some, pv_some] at OT1
      have OT1 := Lib.hid OT1
      clear h1 h2
      go_wp2_with (go_at_call 51; refine OT1.out.mono ?_; rintro e w' ⟨rfl, rfl⟩)
      go_ret
      exact ⟨by rw [E1.out]; rfl, N1.out⟩
    · have e1 : arA n zs at_ (i : Int) = false := by
        unfold arA
        cases ho : nodeOk n zs at_
        · rfl
        · obtain ⟨_, j, rfl, _⟩ := nodeOk_iff.1 ho
          rw [hok, Int.toNat_natCast, Int.toNat_natCast]
          cases ha : anc zs j i
          · rfl
          · exact absurd ⟨by omega, by rw [Int.toNat_natCast]; exact ha⟩ hpa
      have E1 := Lib.hid e1
      have EO : Hid (outO zs at_ (some i) = none) := Lib.hid (if_neg hpa)
      clear hok e1 hx hv hpa
      go_enter Try.func26, Try.ntmps26
      go_wp2_with fail
      refine CT.out.mono ?_
      rintro e w1 ⟨h1, nb, ar, fi, la, ne, rfl, h2⟩
      have N1 := Lib.hid h1
      have OT1 := OT.out _ nb ar fi la ne w1 h2
      rw [EO.out, pv_some, pv_none] at OT1
      have OT1 := Lib.hid OT1
      clear h1 h2
      go_wp2_with (go_at_call 51; refine OT1.out.mono ?_; rintro e w' ⟨rfl, rfl⟩)
      go_ret
      exact ⟨by rw [E1.out]; rfl, N1.out⟩
set_option maxHeartbeats 1000000 in
theorem SDepthOf_any (A : Option Addr) (n c : Nat) (zs : List Int) (at_ : Int) (hn : n ≤ 1048576) (w : World) (hx : Sts 9 w A n zs) :
    Calls Try.prog 13 #[.slice A n c, .int .i64 at_] w fun e w' => e = .returned (.int .i64 (depA n zs at_)) ∧ New w w' := by
  have HX := Lib.hid hx
  have CT := Lib.hid (svalidTree_any A n c zs hn w hx)
  have n0 : (0 : Int) ≤ (n : Int) := by omega
  have n1 : (n : Int) ≤ 1048576 := by omega
  clear hx
  cases hv : vtB n zs
  · have E1 : Hid (depA n zs at_ = -1) := Lib.hid (by unfold depA nodeOk; rw [hv]; rfl)
    have HV := Lib.hid hv
    clear hv
    go_enter Try.func13, Try.ntmps13
    go_wp2_with (go_at_call 40; refine CT.out.mono ?_; rw [HV.out]; rintro e w1 ⟨rfl, h1⟩; (have N1 := Lib.hid h1); clear h1)
    go_ret
    exact ⟨by rw [E1.out]; rfl, N1.out⟩
  · have HV := Lib.hid hv
    cases hd : decide (0 ≤ at_ ∧ at_ ≤ (n : Int) - 1)
    · have E1 : Hid (depA n zs at_ = -1) := Lib.hid (by unfold depA nodeOk; rw [hv, hd]; rfl)
      clear hv
      go_enter Try.func13, Try.ntmps13
      go_wp2_with (first
        | (go_at_call 40; refine CT.out.mono ?_; rw [HV.out]; rintro e w1 ⟨rfl, h1⟩; (have N1 := Lib.hid h1); clear h1)
        | (go_at_call 41; refine (inRange_any _ _ _ _).mono ?_; rw [hd]; rintro e w' ⟨rfl, rfl⟩))
      go_ret
      exact ⟨by rw [E1.out]; rfl, N1.out⟩
    · have hok : nodeOk n zs at_ = true := by unfold nodeOk; rw [hv, hd]; rfl
      obtain ⟨_, i, rfl, hi⟩ := nodeOk_iff.1 hok
      have hn16 := (vtB_iff.1 hv).1
      have HU := Lib.hid (link_vt hv).ups
      have E1 : Hid (depA n zs (i : Int) = (dep zs i : Int)) := Lib.hid (by unfold depA; rw [if_pos hok, Int.toNat_natCast])
      clear hv hok
      go_enter Try.func13, Try.ntmps13
      go_wp2_with fail
      refine CT.out.mono ?_
      rw [HV.out]
      rintro e w1 ⟨rfl, h1⟩
      have N1 := Lib.hid h1
      clear h1
      go_wp2_with fail
      refine (inRange_any _ _ _ _).mono ?_
      rw [hd]
      rintro e w' ⟨rfl, rfl⟩
      have DT := Lib.hid (sdepth_any A n c i n zs hn (Nat.le_refl _) hi HU.out w1 (HX.out.new N1.out))
      go_wp2_with (go_at_call 42; refine DT.out.mono ?_; rintro e w' ⟨rfl, rfl⟩)
      go_ret
      exact ⟨by rw [E1.out]; rfl, N1.out⟩
end Go.Proofs.Ytnihklilappimaa
