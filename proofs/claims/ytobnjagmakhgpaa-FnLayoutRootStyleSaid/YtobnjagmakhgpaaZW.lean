/- Parts that belong together: LayL, LayU, LayV. Conditions: as each part says. -/
import Derived.Test.YtobnjagmakhgpaaZV
import Derived.Test.YtobnjagmakhgpaaLayT
/- LayoutTree of the program, walked. Condition: the tree can be read. -/
namespace Go.Proofs.Ytobnjagmakhgpaa
open Go.RowKit

def layOk (n : Nat) (zs : List Int) (W H : Int) : Bool := vtB n zs && decide (0 ≤ W ∧ W ≤ 10000) && decide (0 ≤ H ∧ H ≤ 10000)
/-- The rectangles of all boxes, or nothing for arguments that are not valid. -/
def layA (n : Nat) (zs : List Int) (W H : Int) : List Rq := if layOk n zs W H = true then (List.range n).map (layR zs n W H) else []
theorem layOk_iff {n : Nat} {zs : List Int} {W H : Int} : layOk n zs W H = true ↔ vtB n zs = true ∧ (0 ≤ W ∧ W ≤ 10000) ∧ (0 ≤ H ∧ H ≤ 10000) := by
  unfold layOk; rw [Bool.and_eq_true, Bool.and_eq_true, decide_eq_true_eq, decide_eq_true_eq]; exact and_assoc
theorem layA_yes {n : Nat} {zs : List Int} {W H : Int} (h : layOk n zs W H = true) : layA n zs W H = (List.range n).map (layR zs n W H) := if_pos h
theorem layA_no {n : Nat} {zs : List Int} {W H : Int} (h : layOk n zs W H = false) : layA n zs W H = [] := if_neg (by rw [h]; exact Bool.false_ne_true)
theorem layA_len {n : Nat} {zs : List Int} {W H : Int} : (layA n zs W H).length ≤ 16 := by
  unfold layA
  split
  · next h => have := (vtB_iff.1 (layOk_iff.1 h).1).1; simp; omega
  · simp
set_option maxHeartbeats 2000000 in
theorem LayoutTree_ans (A : Option Addr) (n c : Nat) (zs : List Int) (W H : Int) (hn : n ≤ 1048576) (w : World) (hx : Sts 9 w A n zs) :
    Calls Try.prog 10 #[.slice A n c, .int .i64 W, .int .i64 H] w (AnsS 4 w (flat4 (layA n zs W H))) := by
  have CT := Lib.hid (linkTree_any A n c zs hn w hx)
  have hnil := fun (W : World) (a : Option Addr) (n c : Nat) => Go.Lib.run_eql_slice_nil (P := Try.prog) W 60 67 a n c 0 0 Try.underlying60
  clear hx
  cases hv : vtB n zs
  · have e := layA_no (n := n) (zs := zs) (W := W) (H := H) (by unfold layOk; rw [hv]; rfl)
    rw [e]
    have HV := Lib.hid hv
    clear hv e
    go_enter Try.func10, Try.ntmps10
    go_wp2_with fail
    refine CT.out.mono ?_
    rintro e w1 ⟨N1, ⟨_, rfl⟩ | ⟨h1, _⟩⟩
    · have N1 := Lib.hid N1
      go_wp2
      go_ret
      exact ⟨none, 0, 0, rfl, rfl, Res.nil _ _ _, N1.out⟩
    · rw [HV.out] at h1; cases h1
  · have HV := Lib.hid hv
    cases h1 : decide (0 ≤ W ∧ W ≤ 10000)
    · have e := layA_no (n := n) (zs := zs) (W := W) (H := H) (by unfold layOk; rw [hv, h1]; rfl)
      rw [e]
      clear hv e
      go_enter Try.func10, Try.ntmps10
      go_wp2_with fail
      refine CT.out.mono ?_
      rintro e w1 ⟨N1, ⟨h2, _⟩ | ⟨_, g, nb, ar, fi, la, ne, rfl, hg, PR, LN⟩⟩
      · rw [HV.out] at h2; cases h2
      · have N1 := Lib.hid N1
        clear PR LN
        go_wp2_with (go_at_call 39; refine (within_any _ _ _ _).mono ?_; rw [h1]; rintro e w' ⟨rfl, rfl⟩)
        go_ret
        exact ⟨none, 0, 0, rfl, rfl, Res.nil _ _ _, N1.out⟩
    · cases h2 : decide (0 ≤ H ∧ H ≤ 10000)
      · have e := layA_no (n := n) (zs := zs) (W := W) (H := H) (by unfold layOk; rw [hv, h1, h2]; rfl)
        rw [e]
        clear hv e
        go_enter Try.func10, Try.ntmps10
        go_wp2_with fail
        refine CT.out.mono ?_
        rintro e w1 ⟨N1, ⟨h3, _⟩ | ⟨_, g, nb, ar, fi, la, ne, rfl, hg, PR, LN⟩⟩
        · rw [HV.out] at h3; cases h3
        · have N1 := Lib.hid N1
          clear PR LN
          go_wp2_with (go_at_call 39; refine (within_any _ _ _ _).mono ?_; (first | rw [h1] | rw [h2]); rintro e w' ⟨rfl, rfl⟩)
          go_ret
          exact ⟨none, 0, 0, rfl, rfl, Res.nil _ _ _, N1.out⟩
      · have e := layA_yes (n := n) (zs := zs) (W := W) (H := H) (by unfold layOk; rw [hv, h1, h2]; rfl)
        rw [e]
        have b1 := of_decide_eq_true h1
        have b2 := of_decide_eq_true h2
        have LO := Lib.hid (fun lo nb gp ar fi la ne w1 (LN : Lnk lo w1 nb zs n ar fi la ne) (PR : PRow w1 gp nb n n) => layoutOf_any lo nb zs n gp ar fi la ne hv W H b1 b2 w1 LN PR)
        clear hv e b1 b2
        generalize flat4 ((List.range n).map (layR zs n W H)) = out at *
        go_enter Try.func10, Try.ntmps10
        go_wp2_with fail
        refine CT.out.mono ?_
        rintro e w1 ⟨N1, ⟨h3, _⟩ | ⟨_, g, nb, ar, fi, la, ne, rfl, hg, PR, LN⟩⟩
        · rw [HV.out] at h3; cases h3
        · have N1 := Lib.hid N1
          have LC := Lib.hid (LO.out _ nb g ar fi la ne w1 LN PR)
          clear PR LN
          go_wp2_with (first
            | (go_at_call 39; refine (within_any _ _ _ _).mono ?_; (first | rw [h1] | rw [h2]); rintro e w' ⟨rfl, rfl⟩)
            | (go_at_call 40; refine LC.out.mono ?_; rintro e w2 ⟨A2, n2, c2, rfl, l2, r2, N2⟩; (have R2 := Lib.hid (And.intro l2 r2)); (have N2 := Lib.hid N2); clear l2 r2))
          go_ret
          exact ⟨A2, n2, c2, rfl, R2.out.1, ⟨R2.out.2.1, fun h => by obtain ⟨g, e, u1, u2, u3⟩ := R2.out.2.2 h; exact ⟨g, e, Nat.le_trans N1.out.le u1, u2, u3⟩⟩, N1.out.trans N2.out⟩
end Go.Proofs.Ytobnjagmakhgpaa

/- The reference's layout and LayoutTree, walked. Condition: the tree can be read. -/
namespace Go.Proofs.Ytobnjagmakhgpaa
open Go.RowKit

theorem PlTo.tree {zs : List Int} {n : Nat} {f : Nat → Rq} {qs qs' : List Rq} (hL : Link zs n) (h : PlTo zs n f 0 n qs qs') : qs' = (List.range n).map f := by
  obtain ⟨h1, h2⟩ := h
  refine List.ext_getElem (by simp [h1]) fun j h4 h5 => ?_
  have h6 := h2 j (by omega)
  have hl : (kidL zs n 0).length ≤ n := by unfold kidL; exact Nat.le_trans (List.length_filter_le _ _) (by simp)
  rw [inTo_all hL (by omega) hl, hL.root_anc (by omega), if_pos rfl] at h6
  simp [h4] at h6
  simp [h6]
theorem zeros4 (n : Nat) : List.replicate (n * 4) (0 : Int) = flat4 (List.replicate n rq0) := by
  induction n with
  | zero => rfl
  | succ n ih =>
    rw [show (n + 1) * 4 = n * 4 + 1 + 1 + 1 + 1 by omega]
    simp only [List.replicate_succ, ih]
    rfl
set_option maxHeartbeats 2000000 in
theorem slayout_any (A : Option Addr) (n c : Nat) (zs : List Int) (W H : Int) (hv : vtB n zs = true) (hW : 0 ≤ W ∧ W ≤ 10000) (hH : 0 ≤ H ∧ H ≤ 10000) (w : World) (hx : Sts 9 w A n zs) :
    Calls Try.prog 43 #[.slice A n c, .int .i64 W, .int .i64 H] w (AnsS 4 w (flat4 ((List.range n).map (layR zs n W H)))) := by
  have n16 := (vtB_iff.1 hv).1
  have hmk := fun W => mkRect n (by omega) W
  have hL := link_vt hv
  have R0 := Row.zeros w #[Value.int .i64 0, Value.int .i64 0, Value.int .i64 0, Value.int .i64 0] (n * 4) 39 zeroRect
  rw [zeros4] at R0
  have N0 : New w (w.alloc (.cells (madeCells #[Value.int .i64 0, Value.int .i64 0, Value.int .i64 0, Value.int .i64 0] (n * 4)) 39)) := (New.refl w).alloc _
  have hA : ∀ b off, A = some ⟨b, off, none⟩ → b ≠ w.heap.size := fun b off e => by
    obtain ⟨b', off', e', hb, _⟩ := hx.at_ (by omega)
    rw [e] at e'
    simp at e'
    omega
  have PL := Lib.hid (splace_any A n c zs W H hv hW hH (n - 0) 0 rfl (by omega) w.heap.size n (List.replicate n rq0) _ (by simp) (hx.new N0) hA R0)
  have l0 : layR zs n W H 0 = (0, 0, W, H) := lay_top (by have := hL.root (by omega); omega)
  rw [l0] at PL
  have HLk := Lib.hid hL
  have L4 : Hid ((flat4 ((List.range n).map (layR zs n W H))).length = n * 4) := Lib.hid (by rw [flat4_len]; simp)
  have N0 := Lib.hid N0
  clear hx hA hW hH hv R0 l0 hL
  go_enter Try.func43, Try.ntmps43
  go_wp2_with fail
  clear hmk
  refine PL.out.mono ?_
  rintro e w1 ⟨rfl, G1, qs, R1, P1⟩
  have e1 := P1.tree HLk.out
  subst e1
  have R1 := Lib.hid R1
  have N1 := Lib.hid (show New w w1 from ⟨G1.os.trans N0.out.os, G1.tape.trans N0.out.tape, G1.output.trans N0.out.output, Nat.le_trans N0.out.le G1.size, fun k hk => (G1.block k (Nat.lt_of_lt_of_le hk N0.out.le) (fun e => by have := Option.some.inj e; omega)).trans (N0.out.block k hk)⟩)
  clear P1 G1
  go_wp2
  go_ret
  exact AnsS.row rfl L4.out (Nat.le_refl _) R1.out N1.out
set_option maxHeartbeats 2000000 in
theorem SLayoutTree_ans (A : Option Addr) (n c : Nat) (zs : List Int) (W H : Int) (hn : n ≤ 1048576) (w : World) (hx : Sts 9 w A n zs) :
    Calls Try.prog 12 #[.slice A n c, .int .i64 W, .int .i64 H] w (AnsS 4 w (flat4 (layA n zs W H))) := by
  have CT := Lib.hid (svalidTree_any A n c zs hn w hx)
  have HX := Lib.hid hx
  clear hx
  cases hv : vtB n zs
  · have e := layA_no (n := n) (zs := zs) (W := W) (H := H) (by unfold layOk; rw [hv]; rfl)
    rw [e]
    have HV := Lib.hid hv
    clear hv e
    go_enter Try.func12, Try.ntmps12
    go_wp2_with (go_at_call 41; refine CT.out.mono ?_; rw [HV.out]; rintro e w1 ⟨rfl, h1⟩; (have N1 := Lib.hid h1); clear h1)
    go_ret
    exact ⟨none, 0, 0, rfl, rfl, Res.nil _ _ _, N1.out⟩
  · have HV := Lib.hid hv
    cases h1 : decide (0 ≤ W ∧ W ≤ 10000)
    · have e := layA_no (n := n) (zs := zs) (W := W) (H := H) (by unfold layOk; rw [hv, h1]; rfl)
      rw [e]
      clear hv e
      go_enter Try.func12, Try.ntmps12
      go_wp2_with (first
        | (go_at_call 41; refine CT.out.mono ?_; rw [HV.out]; rintro e w1 ⟨rfl, h1⟩; (have N1 := Lib.hid h1); clear h1)
        | (go_at_call 42; refine (inRange_any _ _ _ _).mono ?_; rw [h1]; rintro e w' ⟨rfl, rfl⟩))
      go_ret
      exact ⟨none, 0, 0, rfl, rfl, Res.nil _ _ _, N1.out⟩
    · cases h2 : decide (0 ≤ H ∧ H ≤ 10000)
      · have e := layA_no (n := n) (zs := zs) (W := W) (H := H) (by unfold layOk; rw [hv, h1, h2]; rfl)
        rw [e]
        clear hv e
        go_enter Try.func12, Try.ntmps12
        go_wp2_with (first
          | (go_at_call 41; refine CT.out.mono ?_; rw [HV.out]; rintro e w1 ⟨rfl, h1⟩; (have N1 := Lib.hid h1); clear h1)
          | (go_at_call 42; refine (inRange_any _ _ _ _).mono ?_; (first | rw [h1] | rw [h2]); rintro e w' ⟨rfl, rfl⟩))
        go_ret
        exact ⟨none, 0, 0, rfl, rfl, Res.nil _ _ _, N1.out⟩
      · have e := layA_yes (n := n) (zs := zs) (W := W) (H := H) (by unfold layOk; rw [hv, h1, h2]; rfl)
        rw [e]
        have b1 := of_decide_eq_true h1
        have b2 := of_decide_eq_true h2
        have LO := Lib.hid (fun W1 (hW : New w W1) => slayout_any A n c zs W H hv b1 b2 W1 (HX.out.new hW))
        clear hv e b1 b2
        generalize flat4 ((List.range n).map (layR zs n W H)) = out at *
        go_enter Try.func12, Try.ntmps12
        go_wp2_with (first
          | (go_at_call 41; refine CT.out.mono ?_; rw [HV.out]; rintro e w1 ⟨rfl, h1⟩; (have N1 := Lib.hid h1); clear h1)
          | (go_at_call 42; refine (inRange_any _ _ _ _).mono ?_; (first | rw [h1] | rw [h2]); rintro e w' ⟨rfl, rfl⟩)
          | (go_at_call 43; refine (LO.out _ N1.out).mono ?_; rintro e w2 ⟨A2, n2, c2, rfl, l2, r2, N2⟩; (have R2 := Lib.hid (And.intro l2 r2)); (have N2 := Lib.hid N2); clear l2 r2))
        go_ret
        exact ⟨A2, n2, c2, rfl, R2.out.1, ⟨R2.out.2.1, fun h => by obtain ⟨g, e, u1, u2, u3⟩ := R2.out.2.2 h; exact ⟨g, e, Nat.le_trans N1.out.le u1, u2, u3⟩⟩, N1.out.trans N2.out⟩
end Go.Proofs.Ytobnjagmakhgpaa

/- RectOf of the program and of the reference, walked: both answer alike. Condition: the tree can be read. -/
namespace Go.Proofs.Ytobnjagmakhgpaa
open Go.RowKit

def recB (n : Nat) (zs : List Int) (W H a : Int) : Bool := layOk n zs W H && decide (0 ≤ a ∧ a ≤ (n : Int) - 1)
def recQ (n : Nat) (zs : List Int) (W H a : Int) : Rq := if recB n zs W H a = true then layR zs n W H a.toNat else rq0
theorem lay_cases (n : Nat) (zs : List Int) (W H a : Int) : decide (0 ≤ a ∧ a ≤ ((layA n zs W H).length : Int) - 1) = recB n zs W H a := by
  unfold recB
  cases h : layOk n zs W H
  · rw [layA_no h, Bool.false_and]; simp; omega
  · rw [layA_yes h]; simp
theorem lay_at {n i : Nat} {zs : List Int} {W H : Int} (h : layOk n zs W H = true) (hi : i < n) : (layA n zs W H).getD i rq0 = layR zs n W H i := by
  rw [layA_yes h]; simp [hi]
end Go.Proofs.Ytobnjagmakhgpaa
