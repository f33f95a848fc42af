/- ValidTree, KidsOf, DepthOf, IsAround, CountIn of the program and of the reference, walked: both answer as the plain functions do. Condition: the tree can be read. -/
import Derived.Test.YtohjfddmnhnfjaaTreeC
import Derived.Test.YtohjfddmnhnfjaaTreeT
namespace Go.Proofs.Ytohjfddmnhnfjaa
open Go.RowKit

theorem run_neq_slice_nil {P : Program} (w : World) (t e : TypeId) (a : Option Addr) (n c n' c' : Nat) (h : P.underlying t = some (.slice e)) :
    (binOp .neq t (.slice a n c) (.slice none n' c')).run P w = .ok (.bool (!a.isNone)) w := by
  simp only [binOp]
  simp [Op.equal, Op.maxDepth, Go.Lib.run_equalIn_slice_nil w 9999 t e a n c n' c' h]
def kidsA (n : Nat) (zs : List Int) (at_ : Int) : List Int := if nodeOk n zs at_ = true then (kidL zs n at_.toNat).map Int.ofNat else []
def depA (n : Nat) (zs : List Int) (at_ : Int) : Int := if nodeOk n zs at_ = true then (dep zs at_.toNat : Int) else -1
def cntA (n : Nat) (zs : List Int) (at_ : Int) : Int := if nodeOk n zs at_ = true then (en zs n at_.toNat : Int) - at_ else -1
def arA (n : Nat) (zs : List Int) (at_ inner : Int) : Bool := nodeOk n zs at_ && nodeOk n zs inner && anc zs at_.toNat inner.toNat
theorem kidsA_len (n : Nat) (zs : List Int) (at_ : Int) : (kidsA n zs at_).length ≤ 16 := by
  unfold kidsA
  split
  · next h =>
    obtain ⟨h1, i, rfl, hi⟩ := nodeOk_iff.1 h
    rw [List.length_map]
    have h2 := (vtB_iff.1 h1).1
    have : (kidL zs n (i : Int).toNat).length ≤ n := by unfold kidL; have := List.length_filter_le (fun j => decide (par zs j = (((i : Int).toNat : Nat) : Int))) (List.range n); simpa using this
    omega
  · simp
theorem Ans.own {w w' : World} {v : Value} {zs : List Int} {e : Ending} (he : e = .returned v) (h : Own w.heap.size w' v zs) (hN : New w w') : Ans w zs e w' := by
  obtain ⟨A, c, rfl, _, hR⟩ := h.res
  exact ⟨A, zs.length, c, he, rfl, hR, hN⟩
set_option maxHeartbeats 1000000 in
theorem KidsOf_ans (A : Option Addr) (n c : Nat) (zs : List Int) (at_ : Int) (hn : n ≤ 1048576) (w : World) (hx : Sts 9 w A n zs) :
    Calls Try.prog 34 #[.slice A n c, .int .i64 at_] w (Ans w (kidsA n zs at_)) := by
  have HX := Lib.hid hx
  cases hok : nodeOk n zs at_
  · have e1 : kidsA n zs at_ = [] := by unfold kidsA; rw [hok]; rfl
    have E1 := Lib.hid e1
    have CT := Lib.hid (nodeAt_no A n c zs at_ hn hok w hx)
    clear hok e1 hx
    go_enter Try.func34, Try.ntmps34
    go_wp2_with (go_at_call 39; refine CT.out.mono ?_; rintro e w1 ⟨rfl, h1⟩; (have N1 := Lib.hid h1); clear h1)
    go_ret
    rw [E1.out]
    exact Ans.none_ rfl N1.out
  · obtain ⟨hv, i, rfl, hi⟩ := nodeOk_iff.1 hok
    have hn16 := (vtB_iff.1 hv).1
    have e1 : kidsA n zs (i : Int) = (kidL zs n i).map Int.ofNat := by unfold kidsA; rw [if_pos hok, Int.toNat_natCast]
    have E1 := Lib.hid e1
    have CT := Lib.hid (nodeAt_yes A n c i zs hv hi w hx)
    clear hok e1 hx hv
    go_enter Try.func34, Try.ntmps34
    go_wp2_with fail
    refine CT.out.mono ?_
    rintro e w1 ⟨h1, nb, ar, fi, la, ne, rfl, h2⟩
    have N1 := Lib.hid h1; have L1 := Lib.hid h2
    clear h1 h2
    go_wp2_with fail
    refine (kids_any w.heap.size nb zs n i ar fi la ne hi _ L1.out).mono ?_
    rintro e w2 ⟨v, rfl, O2, N2⟩
    have O2 := Lib.hid O2; have N2 := Lib.hid N2
    go_wp2
    go_ret
    rw [E1.out]
    exact Ans.own (w' := w2) rfl (by
      obtain ⟨A1, c1, _, _⟩ := O2.out.res
      exact ⟨O2.out.1, O2.out.2.imp id (fun ⟨g, cap, cur, a1, a2, a3⟩ => ⟨g, cap, cur, a1, Nat.le_trans N1.out.le a2, a3⟩)⟩) (N1.out.trans N2.out)
set_option maxHeartbeats 1000000 in
theorem DepthOf_any (A : Option Addr) (n c : Nat) (zs : List Int) (at_ : Int) (hn : n ≤ 1048576) (w : World) (hx : Sts 9 w A n zs) :
    Calls Try.prog 30 #[.slice A n c, .int .i64 at_] w fun e w' => e = .returned (.int .i64 (depA n zs at_)) ∧ New w w' := by
  have HX := Lib.hid hx
  cases hok : nodeOk n zs at_
  · have e1 : depA n zs at_ = -1 := by unfold depA; rw [hok]; rfl
    have E1 := Lib.hid e1
    have CT := Lib.hid (nodeAt_no A n c zs at_ hn hok w hx)
    clear hok e1 hx
    go_enter Try.func30, Try.ntmps30
    go_wp2_with (go_at_call 39; refine CT.out.mono ?_; rintro e w1 ⟨rfl, h1⟩; (have N1 := Lib.hid h1); clear h1)
    go_ret
    exact ⟨by rw [E1.out]; rfl, N1.out⟩
  · obtain ⟨hv, i, rfl, hi⟩ := nodeOk_iff.1 hok
    have hn16 := (vtB_iff.1 hv).1
    have e1 : depA n zs (i : Int) = (dep zs i : Int) := by unfold depA; rw [if_pos hok, Int.toNat_natCast]
    have E1 := Lib.hid e1
    have CT := Lib.hid (nodeAt_yes A n c i zs hv hi w hx)
    clear hok e1 hx hv
    go_enter Try.func30, Try.ntmps30
    go_wp2_with fail
    refine CT.out.mono ?_
    rintro e w1 ⟨h1, nb, ar, fi, la, ne, rfl, h2⟩
    have N1 := Lib.hid h1; have L1 := Lib.hid h2
    clear h1 h2
    go_wp2_with (go_at_call 44; refine (depth_any w.heap.size nb zs n i ar fi la ne hi _ L1.out).mono ?_; rintro e w' ⟨rfl, rfl⟩)
    go_ret
    exact ⟨by rw [E1.out]; rfl, N1.out⟩
set_option maxHeartbeats 1000000 in
theorem IsAround_any (A : Option Addr) (n c : Nat) (zs : List Int) (at_ inner : Int) (hn : n ≤ 1048576) (w : World) (hx : Sts 9 w A n zs) :
    Calls Try.prog 31 #[.slice A n c, .int .i64 at_, .int .i64 inner] w fun e w' => e = .returned (.bool (arA n zs at_ inner)) ∧ New w w' := by
  have HX := Lib.hid hx
  cases hok : nodeOk n zs inner
  · have e1 : arA n zs at_ inner = false := by unfold arA; rw [hok, Bool.and_false, Bool.false_and]
    have E1 := Lib.hid e1
    have CT := Lib.hid (nodeAt_no A n c zs inner hn hok w hx)
    clear hok e1 hx
    go_enter Try.func31, Try.ntmps31
    go_wp2_with fail
    refine CT.out.mono ?_
    rintro e w1 ⟨rfl, h1⟩
    have N1 := Lib.hid h1
    clear h1
    have OT := Lib.hid (outTo_any w1.heap.size (fun _ => 0) zs 0 none at_ (fun _ => none) (fun _ => none) (fun _ => none) (fun _ => none) (fun j h => by cases h) w1 (Lnk.nil _ _ _ _ _ _ _ _))
    go_wp2_with (go_at_call 45; refine OT.out.mono ?_; rintro e w' ⟨rfl, rfl⟩; rw [show pv (fun _ => 0) (outO zs at_ none) = .pointer none from rfl])
    go_ret
    exact ⟨by rw [E1.out]; rfl, N1.out⟩
  · obtain ⟨hv, i, rfl, hi⟩ := nodeOk_iff.1 hok
    have hn16 := (vtB_iff.1 hv).1
    have OT := Lib.hid (fun (lo : Nat) (nb : Nat → Nat) (ar fi la ne : Nat → Option Nat) (W : World) (h : Lnk lo W nb zs n ar fi la ne) => outTo_any lo nb zs n (some i) at_ ar fi la ne (fun j hj => by have := Option.some.inj hj; omega) W h)
    have CT := Lib.hid (nodeAt_yes A n c i zs hv hi w hx)
    by_cases hpa : 0 ≤ at_ ∧ anc zs at_.toNat i = true
    · have e1 : arA n zs at_ (i : Int) = true := by
        have := anc_le hpa.2
        unfold arA
        rw [hok, Int.toNat_natCast, hpa.2, Bool.and_true, Bool.and_true]
        exact nodeOk_iff.2 ⟨hv, at_.toNat, by omega, by omega⟩
      have E1 := Lib.hid e1
      have EO : Hid (outO zs at_ (some i) = some at_.toNat) := Lib.hid (if_pos hpa)
      clear hok e1 hx hv hpa
      go_enter Try.func31, Try.ntmps31
      go_wp2_with fail
      refine CT.out.mono ?_
      rintro e w1 ⟨h1, nb, ar, fi, la, ne, rfl, h2⟩
      have N1 := Lib.hid h1
      have OT1 := OT.out _ nb ar fi la ne w1 h2
      rw [EO.out, pv_some, pv_some] at OT1
      have OT1 := Lib.hid OT1
      clear h1 h2
      go_wp2_with (go_at_call 45; refine OT1.out.mono ?_; rintro e w' ⟨rfl, rfl⟩)
      go_ret
      exact ⟨by rw [E1.out]; rfl, N1.out⟩
    · have e1 : arA n zs at_ (i : Int) = false := by
        unfold arA
        cases ho : nodeOk n zs at_
        · rfl
        · obtain ⟨_, j, rfl, _⟩ := nodeOk_iff.1 ho
          rw [hok, Int.toNat_natCast, Int.toNat_natCast]
          cases ha : anc zs j i
          · rfl
          · exact absurd ⟨by omega, by rw [Int.toNat_natCast]; exact ha⟩ hpa
      have E1 := Lib.hid e1
      have EO : Hid (outO zs at_ (some i) = none) := Lib.hid (if_neg hpa)
      clear hok e1 hx hv hpa
      go_enter Try.func31, Try.ntmps31
      go_wp2_with fail
      refine CT.out.mono ?_
      rintro e w1 ⟨h1, nb, ar, fi, la, ne, rfl, h2⟩
      have N1 := Lib.hid h1
      have OT1 := OT.out _ nb ar fi la ne w1 h2
      rw [EO.out, pv_some, pv_none] at OT1
      have OT1 := Lib.hid OT1
      clear h1 h2
      go_wp2_with (go_at_call 45; refine OT1.out.mono ?_; rintro e w' ⟨rfl, rfl⟩)
      go_ret
      exact ⟨by rw [E1.out]; rfl, N1.out⟩
end Go.Proofs.Ytohjfddmnhnfjaa
