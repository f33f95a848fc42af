/- ValidTree, KidsOf, DepthOf, IsAround, CountIn of the program and of the reference, walked: both answer as the plain functions do. Condition: the tree can be read. -/
import Derived.Test.YtecoicnpileegaaTreeC
import Derived.Test.YtecoicnpileegaaTreeT
namespace Go.Proofs.Ytecoicnpileegaa
open Go.RowKit

theorem run_neq_slice_nil {P : Program} (w : World) (t e : TypeId) (a : Option Addr) (n c n' c' : Nat) (h : P.underlying t = some (.slice e)) :
    (binOp .neq t (.slice a n c) (.slice none n' c')).run P w = .ok (.bool (!a.isNone)) w := by
  simp only [binOp]
  simp [Op.equal, Op.maxDepth, Go.Lib.run_equalIn_slice_nil w 9999 t e a n c n' c' h]
def kidsA (n : Nat) (zs : List Int) (at_ : Int) : List Int := if nodeOk n zs at_ = true then (kidL zs n at_.toNat).map Int.ofNat else []
def depA (n : Nat) (zs : List Int) (at_ : Int) : Int := if nodeOk n zs at_ = true then (dep zs at_.toNat : Int) else -1
def cntA (n : Nat) (zs : List Int) (at_ : Int) : Int := if nodeOk n zs at_ = true then (en zs n at_.toNat : Int) - at_ else -1
def arA (n : Nat) (zs : List Int) (at_ inner : Int) : Bool := nodeOk n zs at_ && nodeOk n zs inner && anc zs at_.toNat inner.toNat
theorem kidsA_len (n : Nat) (zs : List Int) (at_ : Int) : (kidsA n zs at_).length ≤ 16 := by
  unfold kidsA
  split
  · next h =>
    obtain ⟨h1, i, rfl, hi⟩ := nodeOk_iff.1 h
    rw [List.length_map]
    have h2 := (vtB_iff.1 h1).1
    have : (kidL zs n (i : Int).toNat).length ≤ n := by unfold kidL; have := List.length_filter_le (fun j => decide (par zs j = (((i : Int).toNat : Nat) : Int))) (List.range n); simpa using this
    omega
  · simp
theorem Ans.own {w w' : World} {v : Value} {zs : List Int} {e : Ending} (he : e = .returned v) (h : Own w.heap.size w' v zs) (hN : New w w') : Ans w zs e w' := by
  obtain ⟨A, c, rfl, _, hR⟩ := h.res
  exact ⟨A, zs.length, c, he, rfl, hR, hN⟩
set_option maxHeartbeats 1000000 in
theorem ValidTree_any (A : Option Addr) (n c : Nat) (zs : List Int) (hn : n ≤ 1048576) (w : World) (hx : Sts 9 w A n zs) :
    Calls Try.prog 64 #[.slice A n c] w fun e w' => e = .returned (.bool (vtB n zs)) ∧ New w w' := by
  have HX := Lib.hid hx
  clear hx
  have hnil := fun (W : World) (a : Option Addr) (n c : Nat) => run_neq_slice_nil (P := Try.prog) W 77 54 a n c 0 0 Try.underlying77
  go_enter Try.func64, Try.ntmps64
  go_wp2_with fail
  refine (linkTree_any A n c zs hn _ HX.out).mono ?_
  rintro e w1 ⟨N1, ⟨hv, rfl⟩ | ⟨hv, g, nb, ar, fi, la, ne, rfl, hg, _, _⟩⟩
  all_goals
    have N1' := Lib.hid N1
    have HV := Lib.hid hv
    clear N1 hv
    go_wp2
    go_ret
    exact ⟨by rw [HV.out]; rfl, N1'.out⟩
set_option maxHeartbeats 1000000 in
theorem KidsOf_ans (A : Option Addr) (n c : Nat) (zs : List Int) (at_ : Int) (hn : n ≤ 1048576) (w : World) (hx : Sts 9 w A n zs) :
    Calls Try.prog 25 #[.slice A n c, .int .i64 at_] w (Ans w (kidsA n zs at_)) := by
  have HX := Lib.hid hx
  cases hok : nodeOk n zs at_
  · have e1 : kidsA n zs at_ = [] := by unfold kidsA; rw [hok]; rfl
    have E1 := Lib.hid e1
    have CT := Lib.hid (nodeAt_no A n c zs at_ hn hok w hx)
    clear hok e1 hx
    go_enter Try.func25, Try.ntmps25
    go_wp2_with (go_at_call 38; refine CT.out.mono ?_; rintro e w1 ⟨rfl, h1⟩; (have N1 := Lib.hid h1); clear h1)
    go_ret
    rw [E1.out]
    exact Ans.none_ rfl N1.out
  · obtain ⟨hv, i, rfl, hi⟩ := nodeOk_iff.1 hok
    have hn16 := (vtB_iff.1 hv).1
    have e1 : kidsA n zs (i : Int) = (kidL zs n i).map Int.ofNat := by unfold kidsA; rw [if_pos hok, Int.toNat_natCast]
    have E1 := Lib.hid e1
    have CT := Lib.hid (nodeAt_yes A n c i zs hv hi w hx)
    clear hok e1 hx hv
    go_enter Try.func25, Try.ntmps25
    go_wp2_with fail
    refine CT.out.mono ?_
    rintro e w1 ⟨h1, nb, ar, fi, la, ne, rfl, h2⟩
    have N1 := Lib.hid h1; have L1 := Lib.hid h2
    clear h1 h2
    go_wp2_with fail
    refine (kids_any w.heap.size nb zs n i ar fi la ne hi _ L1.out).mono ?_
    rintro e w2 ⟨v, rfl, O2, N2⟩
    have O2 := Lib.hid O2; have N2 := Lib.hid N2
    go_wp2
    go_ret
    rw [E1.out]
    exact Ans.own (w' := w2) rfl (by
      obtain ⟨A1, c1, _, _⟩ := O2.out.res
      exact ⟨O2.out.1, O2.out.2.imp id (fun ⟨g, cap, cur, a1, a2, a3⟩ => ⟨g, cap, cur, a1, Nat.le_trans N1.out.le a2, a3⟩)⟩) (N1.out.trans N2.out)
set_option maxHeartbeats 1000000 in
theorem SKidsOf_ans (A : Option Addr) (n c : Nat) (zs : List Int) (at_ : Int) (hn : n ≤ 1048576) (w : World) (hx : Sts 9 w A n zs) :
    Calls Try.prog 41 #[.slice A n c, .int .i64 at_] w (Ans w (kidsA n zs at_)) := by
  have HX := Lib.hid hx
  have CT := Lib.hid (svalidTree_any A n c zs hn w hx)
  have n0 : (0 : Int) ≤ (n : Int) := by omega
  have n1 : (n : Int) ≤ 1048576 := by omega
  clear hx
  cases hv : vtB n zs
  · have E1 : Hid (kidsA n zs at_ = []) := Lib.hid (by unfold kidsA nodeOk; rw [hv]; rfl)
    have HV := Lib.hid hv
    clear hv
    go_enter Try.func41, Try.ntmps41
    go_wp2_with (go_at_call 34; refine CT.out.mono ?_; rw [HV.out]; rintro e w1 ⟨rfl, h1⟩; (have N1 := Lib.hid h1); clear h1)
    go_ret
    rw [E1.out]
    exact Ans.none_ rfl N1.out
  · have HV := Lib.hid hv
    cases hd : decide (0 ≤ at_ ∧ at_ ≤ (n : Int) - 1)
    · have E1 : Hid (kidsA n zs at_ = []) := Lib.hid (by unfold kidsA nodeOk; rw [hv, hd]; rfl)
      clear hv
      go_enter Try.func41, Try.ntmps41
      go_wp2_with (first
        | (go_at_call 34; refine CT.out.mono ?_; rw [HV.out]; rintro e w1 ⟨rfl, h1⟩; (have N1 := Lib.hid h1); clear h1)
        | (go_at_call 35; refine (inRange_any _ _ _ _).mono ?_; rw [hd]; rintro e w' ⟨rfl, rfl⟩))
      go_ret
      rw [E1.out]
      exact Ans.none_ rfl N1.out
    · have hok : nodeOk n zs at_ = true := by unfold nodeOk; rw [hv, hd]; rfl
      obtain ⟨_, i, rfl, hi⟩ := nodeOk_iff.1 hok
      have hn16 := (vtB_iff.1 hv).1
      have HU := Lib.hid (link_vt hv).ups
      have E1 : Hid (kidsA n zs (i : Int) = (kidL zs n i).map Int.ofNat) := Lib.hid (by unfold kidsA; rw [if_pos hok, Int.toNat_natCast])
      clear hv hok
      go_enter Try.func41, Try.ntmps41
      go_wp2_with fail
      refine CT.out.mono ?_
      rw [HV.out]
      rintro e w1 ⟨rfl, h1⟩
      have N1 := Lib.hid h1
      clear h1
      go_wp2_with fail
      refine (inRange_any _ _ _ _).mono ?_
      rw [hd]
      rintro e w' ⟨rfl, rfl⟩
      go_wp2_with fail
      refine (skids_any A n c i zs hn hi (fun j hj => HU.out.not_kid hi hj) _ (HX.out.new N1.out)).mono ?_
      rintro e w2 ⟨v, rfl, O2, N2⟩
      have O2 := Lib.hid O2; have N2 := Lib.hid N2
      go_wp2
      go_ret
      rw [E1.out]
      exact Ans.own (w' := w2) rfl ⟨O2.out.1, O2.out.2.imp id (fun ⟨g, cap, cur, a1, a2, a3⟩ => ⟨g, cap, cur, a1, Nat.le_trans N1.out.le a2, a3⟩)⟩ (N1.out.trans N2.out)
end Go.Proofs.Ytecoicnpileegaa
