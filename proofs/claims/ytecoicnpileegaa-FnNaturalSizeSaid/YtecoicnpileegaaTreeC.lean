/- nodeAt and count of the program, walked. Condition: the tree can be read. -/
import Derived.Test.YtecoicnpileegaaTreeK
import Derived.Lib.SliceRun
namespace Go.Proofs.Ytecoicnpileegaa
open Go.RowKit

set_option maxHeartbeats 1000000 in
theorem count_any (lo : Nat) (nb : Nat → Nat) (zs : List Int) (k : Nat) (ar fi la ne : Nat → Option Nat) (m : Nat) : ∀ (i : Nat), k - i = m → i < k → ∀ (w : World), Lnk lo w nb zs k ar fi la ne →
    Calls Try.prog 52 #[.pointer (some ⟨nb i, 0, none⟩)] w fun e w' => e = .returned (.int .i64 ((en zs k i : Int) - (i : Int))) ∧ w = w' := by
  induction m using Nat.strongRecOn with
  | ind m ih =>
    intro i hm hi w h
    have HL := Lib.hid h
    have IH := Lib.hid (fun (j : Nat) (h1 : i < j) (h2 : j < k) => ih (k - j) (by omega) j rfl h2 w h)
    have g0 := h.nd.fi i hi
    have kb := h.kb
    have hf := h.sh.fi i hi
    have eb := en_bd (zs := zs) hi
    rw [hf] at g0
    have st : (kidL zs k i).head?.getD (en zs k i) = i + 1 := by
      cases hk : kidL zs k i with
      | nil => exact h.lk.no_kid hi hk
      | cons j rest => exact h.lk.first_kid hi hk
    clear h ih hf hm
    go_enter Try.func52, Try.ntmps52
    go_wp2
    go_loopw [3, 4] (fun c p wr => wr = w ∧ ∃ (done rest : List Nat) (x : Nat), Hid (kidL zs k i = done ++ rest) ∧ p = pv nb rest.head? ∧ c = .int .i64 (x : Int) ∧ x + i = rest.head?.getD (en zs k i)) (fun _ p wr => upOf k wr p)
    case atStart => exact ⟨rfl, [], kidL zs k i, 1, Lib.hid rfl, rfl, rfl, by omega⟩
    case round =>
      obtain ⟨rfl, done, rest, x, HK, rfl, rfl, hx⟩ := hrel
      cases rest with
      | nil =>
        simp only [List.head?_nil, pv_none]
        simp only [List.head?_nil, Option.getD_none] at hx
        have ex : ((en zs k i : Nat) : Int) - (i : Int) = (x : Int) := by omega
        have EX := Lib.hid ex
        clear ex hx st
        go_wp2
        go_ret
        exact ⟨by rw [EX.out]; rfl, rfl⟩
      | cons j rest =>
        have hjm := HL.out.lk.kid_in (j := j) (a := i) (by rw [HK.out]; simp)
        have g1 := HL.out.nd.ne j hjm.2.2
        have nj := HL.out.nd.upOf_some hjm.2.2
        rw [HL.out.sh.ne i done j rest hi HK.out] at g1
        have nk := HL.out.lk.next_kid hi HK.out
        have ej := en_bd (zs := zs) hjm.2.2
        have hnx : ∀ r, rest.head? = some r → j < r ∧ r < k := fun r hr => by
          cases rest with
          | nil => cases hr
          | cons r' rest' =>
            obtain rfl : r' = r := by simpa using hr
            have hs := kid_sorted zs k i
            rw [HK.out] at hs
            obtain ⟨_, hs2, _⟩ := List.pairwise_append.1 hs
            exact ⟨(List.pairwise_cons.1 hs2).1 _ List.mem_cons_self, (HL.out.lk.kid_in (j := r') (a := i) (by rw [HK.out]; simp)).2.2⟩
        have NX := Lib.hid hnx
        have HK2 : Hid (kidL zs k i = (done ++ [j]) ++ rest) := Lib.hid (by rw [HK.out]; simp)
        have CT := Lib.hid (IH.out j hjm.2.1 hjm.2.2)
        obtain ⟨_, hij, hjk⟩ := hjm
        simp only [List.head?_cons, Option.getD_some] at hx
        obtain ⟨y, hy⟩ : ∃ y : Nat, en zs k j = j + y := ⟨en zs k j - j, by omega⟩
        have NK : Hid (x + y + i = rest.head?.getD (en zs k i)) := Lib.hid (by rw [← nk, hy]; omega)
        rw [hy] at CT
        have cy : (((j + y : Nat) : Int) - (j : Int)) = (y : Int) := by omega
        rw [cy] at CT
        simp only [List.head?_cons, pv_some]
        have xb : (x : Int) ≤ 1000 := by omega
        have yb : (y : Int) ≤ 1000 := by omega
        have x0 : (0 : Int) ≤ (x : Int) := by omega
        have y0 : (0 : Int) ≤ (y : Int) := by omega
        clear hnx cy hy nk ej
        go_wp2_with (go_at_call 52; refine CT.out.mono ?_; rintro e w' ⟨rfl, rfl⟩)
        go_roundw
        case rel => exact ⟨trivial, done ++ [j], rest, x + y, HK2, rfl, by go_num, NK.out⟩
        case measure =>
          rw [nj]
          cases hh : rest.head? with
          | none => rw [pv_none, upOf_nil]; omega
          | some r =>
            have h1 := NX.out r hh
            rw [pv_some, HL.out.nd.upOf_some h1.2]
            omega
/-- There is such a box in a valid tree. -/
def nodeOk (n : Nat) (zs : List Int) (at_ : Int) : Bool := vtB n zs && decide (0 ≤ at_ ∧ at_ ≤ (n : Int) - 1)
theorem nodeOk_iff {n : Nat} {zs : List Int} {at_ : Int} : nodeOk n zs at_ = true ↔ vtB n zs = true ∧ ∃ i : Nat, at_ = (i : Int) ∧ i < n := by
  unfold nodeOk
  rw [Bool.and_eq_true, decide_eq_true_eq]
  constructor
  · rintro ⟨h1, h2⟩; exact ⟨h1, at_.toNat, by omega, by omega⟩
  · rintro ⟨h1, i, rfl, h2⟩; exact ⟨h1, by omega⟩
set_option maxHeartbeats 1000000 in
theorem nodeAt_yes (A : Option Addr) (n c i : Nat) (zs : List Int) (hv : vtB n zs = true) (hi : i < n) (w : World) (hx : Sts 9 w A n zs) :
    Calls Try.prog 38 #[.slice A n c, .int .i64 (i : Int)] w fun e w' => New w w' ∧ ∃ nb ar fi la ne, e = .returned (.pointer (some ⟨nb i, 0, none⟩)) ∧ Lnk w.heap.size w' nb zs n ar fi la ne := by
  have hn := (vtB_iff.1 hv).1
  have HX := Lib.hid hx
  have HV := Lib.hid hv
  have i0 : (0 : Int) ≤ (i : Int) := by omega
  have i1 : (i : Int) < (n : Int) := by omega
  have hd : decide (0 ≤ (i : Int) ∧ (i : Int) ≤ (n : Int) - 1) = true := decide_eq_true (by omega)
  clear hx hv
  go_enter Try.func38, Try.ntmps38
  go_wp2_with fail
  refine (linkTree_any A n c zs (by omega) _ HX.out).mono ?_
  rintro e w1 ⟨N1, ⟨hf, _⟩ | ⟨_, g, nb, ar, fi, la, ne, rfl, hg, PR, LN⟩⟩
  · rw [HV.out] at hf; cases hf
  · have pc := PR.c i hi
    have LN' := Lib.hid LN; have N1' := Lib.hid N1
    clear LN PR N1
    go_wp2_with (go_at_call 62; refine (within_any _ _ _ _).mono ?_; rw [hd]; rintro e w' ⟨rfl, rfl⟩)
    go_ret
    exact ⟨N1'.out, nb, ar, fi, la, ne, rfl, LN'.out⟩
set_option maxHeartbeats 1000000 in
theorem nodeAt_no (A : Option Addr) (n c : Nat) (zs : List Int) (at_ : Int) (hn : n ≤ 1048576) (h : nodeOk n zs at_ = false) (w : World) (hx : Sts 9 w A n zs) :
    Calls Try.prog 38 #[.slice A n c, .int .i64 at_] w fun e w' => e = .returned (.pointer none) ∧ New w w' := by
  have HX := Lib.hid hx
  have n0 : (0 : Int) ≤ (n : Int) := by omega
  have n1 : (n : Int) ≤ 1048576 := by omega
  clear hx
  cases hv : vtB n zs
  · have HV := Lib.hid hv
    have hd : decide (0 ≤ at_ ∧ at_ ≤ -1) = false := decide_eq_false (by omega)
    clear h hv
    go_enter Try.func38, Try.ntmps38
    go_wp2_with fail
    refine (linkTree_any A n c zs hn _ HX.out).mono ?_
    rintro e w1 ⟨N1, ⟨_, rfl⟩ | ⟨hf, _⟩⟩
    · have N1' := Lib.hid N1
      clear N1
      go_wp2_with (go_at_call 62; refine (within_any _ _ _ _).mono ?_; rw [hd]; rintro e w' ⟨rfl, rfl⟩)
      go_ret
      exact ⟨rfl, N1'.out⟩
    · rw [HV.out] at hf; cases hf
  · have HV := Lib.hid hv
    have hd : decide (0 ≤ at_ ∧ at_ ≤ (n : Int) - 1) = false := by unfold nodeOk at h; rw [hv, Bool.true_and] at h; exact h
    have hp := (vtB_iff.1 hv).1.1
    have n2 : (1 : Int) ≤ (n : Int) := by omega
    clear h hv
    go_enter Try.func38, Try.ntmps38
    go_wp2_with fail
    refine (linkTree_any A n c zs hn _ HX.out).mono ?_
    rintro e w1 ⟨N1, ⟨hf, _⟩ | ⟨_, g, nb, ar, fi, la, ne, rfl, hg, _, _⟩⟩
    · rw [HV.out] at hf; cases hf
    · have N1' := Lib.hid N1
      clear N1
      go_wp2_with (go_at_call 62; refine (within_any _ _ _ _).mono ?_; rw [hd]; rintro e w' ⟨rfl, rfl⟩)
      go_ret
      exact ⟨rfl, N1'.out⟩
end Go.Proofs.Ytecoicnpileegaa
