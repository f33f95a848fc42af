/- PathTo, CommonBox and NextLeaf of the program, walked. Condition: the tree can be read. -/
import Derived.Test.YtnihklilappimaaPathM
import Derived.Test.YtnihklilappimaaRev
import Derived.Test.YtnihklilappimaaTreeE
namespace Go.Proofs.Ytnihklilappimaa
open Go.RowKit

def pathA (n : Nat) (zs : List Int) (at_ : Int) : List Int := if nodeOk n zs at_ = true then (pathL zs at_.toNat).map Int.ofNat else []
def comA (n : Nat) (zs : List Int) (a b : Int) : Int := if (nodeOk n zs a && nodeOk n zs b) = true then (comL zs b.toNat a.toNat : Nat) else -1
def nlA (n : Nat) (zs : List Int) (at_ : Int) : Int := if nodeOk n zs at_ = true then nlf zs n at_.toNat 0 else -1
def pathO (zs : List Int) : Option Nat → List Nat
  | none => []
  | some j => pathL zs j
theorem pathA_no {n : Nat} {zs : List Int} {a : Int} (h : nodeOk n zs a = false) : pathA n zs a = [] := by unfold pathA; rw [h]; rfl
theorem pathA_at {n a : Nat} {zs : List Int} (hv : vtB n zs = true) (ha : a < n) : pathA n zs (a : Int) = (pathL zs a).map Int.ofNat := by
  unfold pathA; rw [if_pos (nodeOk_iff.2 ⟨hv, a, rfl, ha⟩), Int.toNat_natCast]
theorem path_le {zs : List Int} {n a : Nat} (ha : a < n) (hn : n ≤ 16) : (pathL zs a).length ≤ 16 := by
  have h1 := dep_le zs a
  rw [path_len]; omega
theorem pathA_len (n : Nat) (zs : List Int) (at_ : Int) : (pathA n zs at_).length ≤ 16 := by
  unfold pathA
  split
  · next h =>
    obtain ⟨h1, i, rfl, hi⟩ := nodeOk_iff.1 h
    rw [List.length_map, Int.toNat_natCast]
    exact path_le hi (vtB_iff.1 h1).1.2
  · exact Nat.zero_le _
/-- Behind a node the path goes on to the node around it. -/
theorem Lnk.path_step {lo : Nat} {w : World} {nb : Nat → Nat} {zs : List Int} {k i : Nat} {ar fi la ne : Nat → Option Nat} (h : Lnk lo w nb zs k ar fi la ne) (hi : i < k) : pathL zs i = pathO zs (ar i) ++ [i] := by
  rw [h.ar i hi]
  rcases Nat.eq_zero_or_pos i with h0 | h0
  · subst h0
    rw [if_pos rfl]
    exact path_top (by have := h.lk.root (by omega); omega)
  · obtain ⟨p, e, hp, _⟩ := h.lk.up i h0 hi
    rw [if_neg (by omega), path_par e hp, e]
    simp [pathO]
/-- An answer that is a row of its own, with its room. -/
def AnsN (w : World) (zs : List Int) (e : Ending) (w' : World) : Prop :=
  ∃ (A : Option Addr) (n c : Nat), e = .returned (.slice A n c) ∧ zs.length = n ∧ n ≤ c ∧ Res w.heap.size w'.heap.size w' A zs ∧ New w w'
theorem AnsN.ans {w w' : World} {zs : List Int} {e : Ending} (h : AnsN w zs e w') : Ans w zs e w' := by
  obtain ⟨A, n, c, h1, h2, _, h3, h4⟩ := h
  exact ⟨A, n, c, h1, h2, h3, h4⟩
set_option maxHeartbeats 1600000 in
theorem PathTo_ansN (A : Option Addr) (n c : Nat) (zs : List Int) (at_ : Int) (hn : n ≤ 1048576) (w : World) (hx : Sts 9 w A n zs) :
    Calls Try.prog 14 #[.slice A n c, .int .i64 at_] w (AnsN w (pathA n zs at_)) := by
  cases hok : nodeOk n zs at_
  · have E1 := Lib.hid (pathA_no hok)
    have CT := Lib.hid (nodeAt_no A n c zs at_ hn hok w hx)
    clear hok hx
    go_enter Try.func14, Try.ntmps14
    go_wp2_with fail
    refine CT.out.mono ?_
    rintro e w1 ⟨rfl, h1⟩
    have N1 := Lib.hid h1
    clear h1
    go_wp2
    go_loopw [5, 6] (fun v p wr => v = .slice none 0 0 ∧ p = .pointer none ∧ wr = w1) (fun _ _ _ => 0)
    case atStart => exact ⟨rfl, rfl, rfl⟩
    case round =>
      obtain ⟨rfl, rfl, rfl⟩ := hrel
      go_wp2_with (go_at_call 43; refine (ReverseNone_any _ _ _).mono ?_; rintro e w' ⟨rfl, rfl⟩)
      go_ret
      rw [E1.out]
      exact ⟨none, 0, 0, rfl, rfl, Nat.le_refl _, Res.nil _ _ _, N1.out⟩
  · obtain ⟨hv, i, rfl, hi⟩ := nodeOk_iff.1 hok
    have hn16 := (vtB_iff.1 hv).1
    have E1 := Lib.hid (pathA_at hv hi)
    have CT := Lib.hid (nodeAt_yes A n c i zs hv hi w hx)
    have PL := Lib.hid (path_le (zs := zs) hi hn16.2)
    clear hok hx hv
    go_enter Try.func14, Try.ntmps14
    go_wp2_with fail
    refine CT.out.mono ?_
    rintro e w1 ⟨h1, nb, ar, fi, la, ne, rfl, h2⟩
    have N1 := Lib.hid h1; have HL := Lib.hid h2
    clear h1 h2
    go_wp2
    go_loopw [5, 6] (fun v p wr => ∃ (o : Option Nat) (acc : List Nat), p = pv nb o ∧ Hid (∀ j, o = some j → j < n) ∧ Hid (pathO zs o ++ acc.reverse = pathL zs i) ∧ Hid (Own w1.heap.size wr v (acc.map Int.ofNat)) ∧ Hid (New w1 wr)) (fun _ p wr => numOf wr p)
    case atStart => exact ⟨some i, [], rfl, Lib.hid (fun j hj => by have := Option.some.inj hj; omega), Lib.hid (by simp [pathO]), Lib.hid (Own.nil _ _), Lib.hid (New.refl _)⟩
    case round =>
      obtain ⟨o, acc, rfl, ro, HP, HO, HN⟩ := hrel
      cases o with
      | none =>
        simp only [pv_none]
        have ep : acc.reverse = pathL zs i := HP.out
        rcases HO.out.form with ⟨_, e0⟩ | ⟨g, cap, rfl, hg, hR, hc, _⟩
        · exfalso
          have h1 : acc = [] := by simpa using e0
          subst h1
          have h2 := path_len zs i
          rw [← ep] at h2
          simp at h2
        · have la : (acc.map Int.ofNat).length = acc.length := List.length_map _
          rw [la]
          have al : acc.length ≤ 16 := by have := PL.out; rw [← ep, List.length_reverse] at this; exact this
          have HR := Lib.hid hR
          have EP := Lib.hid ep
          have LA := Lib.hid la
          clear hR ep la HO
          go_wp2_with (go_at_call 43; refine (Reverse_any g acc.length cap _ LA.out (by omega) _ HR.out).mono ?_; rintro e w2 ⟨rfl, R2, G2⟩; (have R2 := Lib.hid R2); (have N2 := Lib.hid (new_only HN.out hg G2)); clear G2)
          go_ret
          rw [E1.out]
          have HC := Lib.hid hc
          refine ⟨_, acc.length, cap, rfl, ?_, (by have h := HC.out; rw [LA.out] at h; exact h), ?_, N1.out.trans N2.out⟩
          · rw [← EP.out]; simp
          · rw [← EP.out, List.map_reverse]; exact Res.of_row R2.out (Nat.le_trans N1.out.le hg)
      | some j =>
        have hj := ro.out j rfl
        have HNd := HL.out.nd.new HN.out
        have g1 := HNd.ar j hj
        have g2 := HNd.num j hj
        have nj := HNd.numOf_some hj
        have R1 := Lib.hid (fun j' hj' => HL.out.rg.ar j j' hj hj')
        have PS := Lib.hid (show pathO zs (ar j) ++ (acc ++ [j]).reverse = pathL zs i by
          have h1 := HP.out
          have h2 := HL.out.path_step hj
          simp only [pathO] at h1
          rw [List.reverse_append, List.reverse_cons, List.reverse_nil, List.nil_append, ← List.append_assoc, ← h2]
          exact h1)
        have LD : Hid (acc.length ≤ 16) := Lib.hid (by have h1 := PL.out; rw [← HP.out, List.length_append, List.length_reverse] at h1; omega)
        have ns : ∀ w6, New w1 w6 → numOf w6 (pv nb (ar j)) < j + 1 := fun w6 N6 => by
          rw [HL.out.ar j hj]
          rcases Nat.eq_zero_or_pos j with h0 | h0
          · subst h0; rw [if_pos rfl]; exact Nat.succ_pos _
          · obtain ⟨p, e, hp, _⟩ := HL.out.lk.up j h0 hj
            rw [if_neg (by omega), e]
            have := (HL.out.nd.new N6).numOf_some (i := p) (by omega)
            simp only [pv_some, Int.toNat_natCast]
            omega
        have NS := Lib.hid ns
        have sz := HN.out.le
        have CA := Lib.hid (fun w6 (N6 : New w1 w6) => (HL.out.nd.new N6).ar j hj)
        simp only [pv_some]
        have j0 : (0 : Int) ≤ (j : Int) := by omega
        clear HNd ns HP
        go_wp2_with (at_builtin; refine wp_app rfl _ _ rfl w1.heap.size _ _ rfl (HO.out.alloc _) (some ⟨wr.heap.size, 0, none⟩) 1 1 [(j : Int)] rfl (Ints.one wr _ _) (by have := LD.out; rw [List.length_map]; omega) (by simp; omega) ?_; intro v6 w6 O6 G6; (have N6 := Lib.hid (new_own (HN.out.alloc _) G6 (HO.out.alloc _) (Nat.le_refl _))); (have g3 := CA.out w6 N6.out); (have O6 := Lib.hid O6); clear G6)
        go_roundw
        case rel => exact ⟨ar j, acc ++ [j], rfl, R1, PS, Lib.hid (by rw [List.map_append]; exact O6.out), N6⟩
        case measure => rw [nj]; exact NS.out w6 N6.out
theorem PathTo_ans (A : Option Addr) (n c : Nat) (zs : List Int) (at_ : Int) (hn : n ≤ 1048576) (w : World) (hx : Sts 9 w A n zs) :
    Calls Try.prog 14 #[.slice A n c, .int .i64 at_] w (Ans w (pathA n zs at_)) := (PathTo_ansN A n c zs at_ hn w hx).mono fun _ _ h => h.ans
end Go.Proofs.Ytnihklilappimaa
