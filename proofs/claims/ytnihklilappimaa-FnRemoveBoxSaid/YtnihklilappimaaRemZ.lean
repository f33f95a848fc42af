/- RemoveBox of the reference: the answer. Condition: the tree can be read. -/
import Derived.Test.YtnihklilappimaaRemW
import Derived.Test.YtnihklilappimaaPartS
import Derived.Test.YtnihklilappimaaTreeE
namespace Go.Proofs.Ytnihklilappimaa
open Go.RowKit

set_option maxRecDepth 100000 in
set_option maxHeartbeats 4000000 in
theorem SRemoveBox_ansT (A : Option Addr) (n c : Nat) (zs : List Int) (at_ : Int) (hn : n ≤ 1048576) (hnc : n ≤ c) (w : World) (hx : Sts 9 w A n zs) :
    Calls Try.prog 36 #[.slice A n c, .int .i64 at_] w (AnsT 9 w (remOk n zs at_) (remA n zs at_)) := by
  have HX := Lib.hid hx; have HL := Lib.hid hx.len
  have CT := Lib.hid (svalidTree_any A n c zs hn w hx)
  have n0 : (0 : Int) ≤ (n : Int) := by omega
  have n1 : (n : Int) ≤ 1048576 := by omega
  cases hv : vtB n zs
  · have e1 : remOk n zs at_ = false := by unfold remOk nodeOk; rw [hv]; rfl
    have E1 : Hid (remOk n zs at_ = false) := Lib.hid e1
    have E2 : Hid (remA n zs at_ = []) := Lib.hid (by unfold remA; rw [e1]; rfl)
    have HV := Lib.hid hv
    clear hv hx e1
    go_enter Try.func36, Try.ntmps36
    go_wp2_with (go_at_call 40; refine CT.out.mono ?_; rw [HV.out]; rintro e w1 ⟨rfl, h1⟩; (have N1 := Lib.hid h1); clear h1)
    refine bodyPost_ret (v := .tuple #[.slice none 0 0, .bool false]) (by simp [results, Try.results36, go_sem]) rfl ?_
    rw [E1.out, E2.out]
    exact AnsT.no rfl N1.out
  · cases hd : decide (1 ≤ at_ ∧ at_ ≤ (n : Int) - 1)
    · have e1 : remOk n zs at_ = false := by
        have h := of_decide_eq_false hd
        unfold remOk nodeOk
        rw [hv, Bool.true_and]
        by_cases h0 : at_ = 0
        · simp [h0]
        · rw [decide_eq_false (show ¬ (0 ≤ at_ ∧ at_ ≤ (n : Int) - 1) by omega)]; rfl
      have E1 : Hid (remOk n zs at_ = false) := Lib.hid e1
      have E2 : Hid (remA n zs at_ = []) := Lib.hid (by unfold remA; rw [e1]; rfl)
      have HV := Lib.hid hv
      clear hv hx e1
      go_enter Try.func36, Try.ntmps36
      go_wp2_with (first
        | (go_at_call 40; refine CT.out.mono ?_; rw [HV.out]; rintro e w1 ⟨rfl, h1⟩; (have N1 := Lib.hid h1); clear h1)
        | (go_at_call 41; refine (inRange_any _ _ _ _).mono ?_; rw [hd]; rintro e w' ⟨rfl, rfl⟩))
      refine bodyPost_ret (v := .tuple #[.slice none 0 0, .bool false]) (by simp [results, Try.results36, go_sem]) rfl ?_
      rw [E1.out, E2.out]
      exact AnsT.no rfl N1.out
    · have h := of_decide_eq_true hd
      obtain ⟨a, rfl⟩ : ∃ a : Nat, at_ = (a : Int) := ⟨at_.toNat, by omega⟩
      have ha : a < n := by omega
      have hok : nodeOk n zs (a : Int) = true := nodeOk_iff.2 ⟨hv, a, rfl, ha⟩
      have e1 : remOk n zs (a : Int) = true := by unfold remOk; rw [hok]; simp; omega
      have E1 : Hid (remOk n zs (a : Int) = true) := Lib.hid e1
      have E2 : Hid (remA n zs (a : Int) = remL n zs a) := Lib.hid (by unfold remA; rw [if_pos e1, Int.toNat_natCast])
      have eb := en_bd (zs := zs) ha
      obtain ⟨m, hm⟩ : ∃ m, en zs n a = a + m := ⟨en zs n a - a, by omega⟩
      obtain ⟨b, off, rfl, _, _⟩ := hx.at_ (by omega)
      have WA := Lib.hid (fun W (h : New w W) => without_any b off n c a m zs hv ha hm hnc W (hx.new h))
      have HV := Lib.hid hv
      clear hv hx e1 hok
      go_enter Try.func36, Try.ntmps36
      go_wp2_with (first
        | (go_at_call 40; refine CT.out.mono ?_; rw [HV.out]; rintro e w1 ⟨rfl, h1⟩; (have N1 := Lib.hid h1); clear h1)
        | (go_at_call 41; refine (inRange_any _ _ _ _).mono ?_; rw [hd]; rintro e w' ⟨rfl, rfl⟩)
        | (go_at_call 65; refine (WA.out w1 N1.out).mono ?_; rintro e w2 ⟨v, rfl, O2, N2⟩; (obtain ⟨g, cg, rfl, hg, R2, hcg, L2⟩ := O2.some_ (by omega)); (have R2 := Lib.hid R2); (have N2 := Lib.hid (N1.out.trans N2)); clear O2))
      refine bodyPost_ret (v := .tuple #[.slice (some ⟨g, 0, none⟩) (a + (n - (a + m))) cg, .bool true]) (by simp [results, Try.results36, go_sem]) rfl ?_
      rw [E1.out, E2.out]
      exact ⟨_, _, cg, rfl, L2, Res.of_row R2.out (Nat.le_trans N1.out.le hg), N2.out⟩
end Go.Proofs.Ytnihklilappimaa
