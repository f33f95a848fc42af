/- RemoveBox of the program, walked. Condition: the tree can be read. -/
import Derived.Test.YtnihklilappimaaAddP
import Derived.Test.YtnihklilappimaaDelBox
import Derived.Test.YtnihklilappimaaPartI
import Derived.Test.YtnihklilappimaaAnsT
namespace Go.Proofs.Ytnihklilappimaa
open Go.RowKit

/-- The tree without a box and all boxes in it. -/
def remL (n : Nat) (zs : List Int) (a : Nat) : List Int := parF (mvp (a : Int) (-(((en zs n a - a : Nat) : Int)))) (zs.take (a * 9) ++ zs.drop (en zs n a * 9))
def remOk (n : Nat) (zs : List Int) (at_ : Int) : Bool := nodeOk n zs at_ && decide (at_ ≠ 0)
def remA (n : Nat) (zs : List Int) (at_ : Int) : List Int := if remOk n zs at_ = true then remL n zs at_.toNat else []
theorem remL_len {n a : Nat} {zs : List Int} (hz : zs.length = n * 9) (ha : a < n) : (remL n zs a).length = (n - (en zs n a - a)) * 9 := by
  have eb := en_bd (zs := zs) ha
  unfold remL
  rw [parF_len, List.length_append, List.length_take, List.length_drop]
  omega
theorem remA_len {n : Nat} {zs : List Int} (hz : zs.length = n * 9) (at_ : Int) : (remA n zs at_).length ≤ 144 := by
  unfold remA
  split
  · rename_i h
    unfold remOk at h
    rw [Bool.and_eq_true] at h
    obtain ⟨hv, a, rfl, ha⟩ := nodeOk_iff.1 h.1
    have := (vtB_iff.1 hv).1
    rw [Int.toNat_natCast, remL_len hz ha]
    omega
  · simp
set_option maxRecDepth 100000 in
set_option maxHeartbeats 4000000 in
theorem RemoveBox_ansR (A : Option Addr) (n c : Nat) (zs : List Int) (at_ : Int) (hn : n ≤ 1048576) (w : World) (hx : Sts 9 w A n zs) :
    Calls Try.prog 33 #[.slice A n c, .int .i64 at_] w (AnsR 9 w (remOk n zs at_) (remA n zs at_)) := by
  have HX := Lib.hid hx; have HL := Lib.hid hx.len
  cases hok : nodeOk n zs at_
  · have e1 : remOk n zs at_ = false := by unfold remOk; rw [hok]; rfl
    have E1 : Hid (remOk n zs at_ = false) := Lib.hid e1
    have E2 : Hid (remA n zs at_ = []) := Lib.hid (by unfold remA; rw [e1]; rfl)
    have CT := Lib.hid (nodeAt_no A n c zs at_ hn hok w hx)
    clear hok hx e1
    go_enter Try.func33, Try.ntmps33
    go_wp2_with (go_at_call 38; refine CT.out.mono ?_; rintro e w1 ⟨rfl, h1⟩; (have N1 := Lib.hid h1); clear h1)
    refine bodyPost_ret (v := .tuple #[.slice none 0 0, .bool false]) (by simp [results, Try.results33, go_sem]) rfl ?_
    rw [E1.out, E2.out]
    exact ⟨none, 0, 0, rfl, by simp, Nat.le_refl _, Res.nil _ _ _, N1.out⟩
  · obtain ⟨hv, a, rfl, ha⟩ := nodeOk_iff.1 hok
    have hn16 := (vtB_iff.1 hv).1
    have CT := Lib.hid (nodeAt_yes A n c a zs hv ha w hx)
    by_cases h0 : a = 0
    · subst h0
      have e1 : remOk n zs ((0 : Nat) : Int) = false := by unfold remOk; simp
      have E1 : Hid (remOk n zs ((0 : Nat) : Int) = false) := Lib.hid e1
      have E2 : Hid (remA n zs ((0 : Nat) : Int) = []) := Lib.hid (by unfold remA; rw [e1]; rfl)
      clear hok hx e1 hv
      go_enter Try.func33, Try.ntmps33
      go_wp2_with (go_at_call 38; refine CT.out.mono ?_; rintro e w1 ⟨h1, nb, ar, fi, la, ne, rfl, _⟩; (have N1 := Lib.hid h1); clear h1)
      refine bodyPost_ret (v := .tuple #[.slice none 0 0, .bool false]) (by simp [results, Try.results33, go_sem]) rfl ?_
      rw [E1.out, E2.out]
      exact ⟨none, 0, 0, rfl, by simp, Nat.le_refl _, Res.nil _ _ _, N1.out⟩
    · have e1 : remOk n zs (a : Int) = true := by unfold remOk; rw [hok]; simp; omega
      have E1 : Hid (remOk n zs (a : Int) = true) := Lib.hid e1
      have E2 : Hid (remA n zs (a : Int) = remL n zs a) := Lib.hid (by unfold remA; rw [if_pos e1, Int.toNat_natCast])
      have LR := Lib.hid (remL_len hx.len ha)
      have PL := Lib.hid (fun k (hk : k < n) => par_lim hv hk)
      have eb := en_bd (zs := zs) ha
      obtain ⟨m, hm⟩ : ∃ m, en zs n a - a = m := ⟨_, rfl⟩
      have hem : (en zs n a : Int) - (a : Int) = (m : Int) := by omega
      have hen : en zs n a = a + m := by omega
      have ER : Hid (remL n zs a = parF (mvp (a : Int) (-(m : Int))) (zs.take (a * 9) ++ zs.drop ((a + m) * 9))) := Lib.hid (by unfold remL; rw [hm, hen])
      rw [hm] at LR
      have HEM := Lib.hid hem
      obtain ⟨b, off, rfl, _, _⟩ := hx.at_ (by omega)
      have am : a + m ≤ n := by omega
      have m1 : 1 ≤ m := by omega
      clear hok hx hv e1 hem hm hen
      have i0 : (0 : Int) < (a : Int) := by omega
      have i1 : (a : Int) + (m : Int) ≤ (n : Int) := by omega
      have i4 : (a : Int) ≤ 16 := by omega
      have i5 : (m : Int) ≤ 16 := by omega
      have i6 : (0 : Int) < (m : Int) := by omega
      have wn : IntKind.i64.wrap (-(m : Int)) = -(m : Int) := IntWalk.i64_in _ (by omega)
      have az : ((a : Int) == 0) = false := by simp; omega
      have az2 : (a == 0) = false := by simp; omega
      go_enter Try.func33, Try.ntmps33
      go_wp2_with fail
      refine CT.out.mono ?_
      rintro e w1 ⟨h1, nb, ar, fi, la, ne, rfl, h2⟩
      have N1 := Lib.hid h1
      have CC := Lib.hid (count_any w.heap.size nb zs n ar fi la ne (n - a) a rfl ha w1 h2)
      rw [HEM.out] at CC
      have S1 := Lib.hid (HX.out.new h1)
      clear h1 h2 CT
      go_wp2_with (go_at_call 55; refine CC.out.mono ?_; rintro e w' ⟨rfl, rfl⟩)
      refine (CloneB_any _ n c zs (by omega) w1 S1.out).mono ?_
      rintro e w2 ⟨v, rfl, O2, N2⟩
      obtain ⟨g, cg, rfl, hg, R2, hcg, _⟩ := O2.some_ (by omega)
      have hgw : w.heap.size ≤ g := Nat.le_trans N1.out.le hg
      have lim := O2.lim
      have CD := DeleteBox_any g n cg a m zs (by omega) am (by omega) hcg lim w2 HL.out R2
      rw [Int.natCast_add] at CD
      have CD := Lib.hid CD
      have N2 := Lib.hid (N1.out.trans N2)
      clear O2 R2 S1
      go_wp2_with fail
      refine CD.out.mono ?_
      rintro e w3 ⟨rfl, R3, G3⟩
      have N3 := Lib.hid (new_only N2.out hgw G3)
      have L3 : (zs.take (a * 9) ++ zs.drop ((a + m) * 9)).length = (n - m) * 9 := by rw [List.length_append, List.length_take, List.length_drop, HL.out]; omega
      have CM := Lib.hid (moveParents_any g (n - m) cg _ (a : Int) (-(m : Int)) L3 (by omega) (fun k hk => by
        have hl : (zs.take (a * 9)).length = a * 9 := by rw [List.length_take, HL.out]; omega
        unfold par
        by_cases hka : k < a
        · rw [getD_apl (by rw [hl]; omega), List.getD_eq_getElem?_getD, List.getElem?_take_of_lt (by omega), ← List.getD_eq_getElem?_getD]
          have := PL.out k (by omega)
          unfold par at this
          omega
        · rw [getD_apr (by rw [hl]; omega), hl, List.getD_eq_getElem?_getD, List.getElem?_drop, ← List.getD_eq_getElem?_getD, show (a + m) * 9 + (k * 9 - a * 9) = (k + m) * 9 by omega]
          have := PL.out (k + m) (by omega)
          unfold par at this
          omega) (by omega) w3 R3)
      clear R3 L3 G3 CD
      go_wp2_with fail
      refine CM.out.mono ?_
      rintro e w4 ⟨rfl, R4, G4⟩
      have N4 := Lib.hid (new_only N3.out hgw G4)
      have R4 := Lib.hid R4
      clear G4
      go_wp2
      refine bodyPost_ret (v := .tuple #[.slice (some ⟨g, 0, none⟩) (n - m) cg, .bool true]) (by simp [results, Try.results33, go_sem]) rfl ?_
      rw [E1.out, E2.out, ER.out]
      exact ⟨_, n - m, cg, rfl, by rw [← ER.out]; exact LR.out, by omega, Res.of_row R4.out hgw, N4.out⟩
theorem RemoveBox_ansT (A : Option Addr) (n c : Nat) (zs : List Int) (at_ : Int) (hn : n ≤ 1048576) (w : World) (hx : Sts 9 w A n zs) :
    Calls Try.prog 33 #[.slice A n c, .int .i64 at_] w (AnsT 9 w (remOk n zs at_) (remA n zs at_)) :=
  (RemoveBox_ansR A n c zs at_ hn w hx).mono fun _ _ ⟨B, k, d, h1, h2, _, h3, h4⟩ => ⟨B, k, d, h1, h2, h3, h4⟩
end Go.Proofs.Ytnihklilappimaa
