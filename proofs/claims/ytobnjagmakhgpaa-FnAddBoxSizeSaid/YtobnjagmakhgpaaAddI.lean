/- AddBox of the program and of the reference: one answer. Condition: the tree can be read. -/
import Derived.Test.YtobnjagmakhgpaaStyI
import Derived.Test.YtobnjagmakhgpaaAddP
namespace Go.Proofs.Ytobnjagmakhgpaa
open Go.RowKit

def addA (n : Nat) (zs : List Int) (at_ : Int) (bs : List Int) : List Int := if addOk n zs at_ bs = true then addL n zs at_.toNat bs else []
theorem addNo {n : Nat} {zs : List Int} {at_ : Int} (h : nodeOk n zs at_ = false) (bs : List Int) : addOk n zs at_ bs = false ∧ addA n zs at_ bs = [] := by
  have e : addOk n zs at_ bs = false := by unfold addOk; rw [h]; rfl
  exact ⟨e, by unfold addA; rw [e]; rfl⟩
theorem addA_len {n : Nat} {zs : List Int} (hz : zs.length = n * 9) (at_ : Int) (bs : List Int) (hb : bs.length = 8) : (addA n zs at_ bs).length ≤ 144 := by
  unfold addA
  split
  · rename_i h
    unfold addOk at h
    rw [Bool.and_eq_true] at h
    obtain ⟨h1, h2⟩ := h
    obtain ⟨hv, a, rfl, ha⟩ := nodeOk_iff.1 h1
    have := (vtB_iff.1 h2).1
    have eb := en_bd (zs := zs) ha
    rw [Int.toNat_natCast]
    unfold addL
    simp only [List.length_append, List.length_take, List.length_cons, tailB_len, hz, hb]
    omega
  · simp
theorem SAddBox_ansT (A : Option Addr) (n c : Nat) (zs : List Int) (at_ q b1 b2 b3 b4 b5 b6 b7 b8 : Int) (hn : n ≤ 1048576) (hnc : n ≤ c) (w : World) (hx : Sts 9 w A n zs) :
    Calls Try.prog 23 #[.slice A n c, .int .i64 at_, .agg #[.int .i64 q, .int .i64 b1, .int .i64 b2, .int .i64 b3, .int .i64 b4, .int .i64 b5, .int .i64 b6, .int .i64 b7, .int .i64 b8]] w (AnsT 9 w (addOk n zs at_ [b1, b2, b3, b4, b5, b6, b7, b8]) (addA n zs at_ [b1, b2, b3, b4, b5, b6, b7, b8])) := by
  refine (SAddBox_any A n c zs at_ q b1 b2 b3 b4 b5 b6 b7 b8 hn hnc w hx).mono ?_
  rintro e w' ⟨hN, ⟨hok, rfl⟩ | ⟨hok, v, rfl, hO⟩⟩
  · have e2 : addA n zs at_ [b1, b2, b3, b4, b5, b6, b7, b8] = [] := by unfold addA; rw [hok]; rfl
    rw [hok, e2]
    exact AnsT.no rfl hN
  · have e2 : addA n zs at_ [b1, b2, b3, b4, b5, b6, b7, b8] = addL n zs at_.toNat [b1, b2, b3, b4, b5, b6, b7, b8] := by unfold addA; rw [if_pos hok]
    obtain ⟨g, cg, rfl, hg, R, _, L⟩ := hO.some_ (by omega)
    rw [hok, e2]
    exact ⟨_, n + 1, cg, rfl, L, Res.of_row R hg, hN⟩
set_option maxRecDepth 100000 in
set_option maxHeartbeats 4000000 in
theorem AddBox_ansT (A : Option Addr) (n c : Nat) (zs : List Int) (at_ q b1 b2 b3 b4 b5 b6 b7 b8 : Int) (hn : n ≤ 1048576) (w : World) (hx : Sts 9 w A n zs) :
    Calls Try.prog 22 #[.slice A n c, .int .i64 at_, .agg #[.int .i64 q, .int .i64 b1, .int .i64 b2, .int .i64 b3, .int .i64 b4, .int .i64 b5, .int .i64 b6, .int .i64 b7, .int .i64 b8]] w (AnsT 9 w (addOk n zs at_ [b1, b2, b3, b4, b5, b6, b7, b8]) (addA n zs at_ [b1, b2, b3, b4, b5, b6, b7, b8])) := by
  have HX := Lib.hid hx; have HL := Lib.hid hx.len
  have AN := Lib.hid (show New w (w.alloc (.cells #[.int .i64 q, .int .i64 b1, .int .i64 b2, .int .i64 b3, .int .i64 b4, .int .i64 b5, .int .i64 b6, .int .i64 b7, .int .i64 b8] 30)) by (repeat (first | exact New.refl _ | assumption | refine New.alloc ?_ _ | refine New.drew ?_ | refine New.drewN ?_ _ | refine New.setCell ?_ (by first | omega | (simp; omega) | (simp; done)) _ | refine New.trans ?_ (by assumption))))
  have RB := Lib.hid (Row.oneBox w q b1 b2 b3 b4 b5 b6 b7 b8 30)
  cases hok : nodeOk n zs at_
  · obtain ⟨e1, e2⟩ := addNo hok [b1, b2, b3, b4, b5, b6, b7, b8]
    have E1 := Lib.hid e1; have E2 := Lib.hid e2
    have CT := Lib.hid (nodeAt_no A n c zs at_ hn hok _ (hx.new AN.out))
    clear hok hx e1 e2
    go_enter Try.func22, Try.ntmps22
    go_wp2_with (go_at_call 44; refine CT.out.mono ?_; rintro e w1 ⟨rfl, h1⟩; (have N1 := Lib.hid (AN.out.trans h1)); clear h1)
    refine bodyPost_ret (v := .tuple #[.slice none 0 0, .bool false]) (by simp [results, Try.results22, go_sem]) rfl ?_
    rw [E1.out, E2.out]
    exact AnsT.no rfl N1.out
  · obtain ⟨hv, a, rfl, ha⟩ := nodeOk_iff.1 hok
    have hn16 := (vtB_iff.1 hv).1
    have CT := Lib.hid (nodeAt_yes A n c a zs hv ha _ (hx.new AN.out))
    have AS := Lib.hid (add_same hv hx.len ha [b1, b2, b3, b4, b5, b6, b7, b8] rfl)
    have E0 : Hid (addOk n zs (a : Int) [b1, b2, b3, b4, b5, b6, b7, b8] = vtB (n + 1) (addL n zs a [b1, b2, b3, b4, b5, b6, b7, b8])) := Lib.hid (by unfold addOk; rw [hok, Bool.true_and, Int.toNat_natCast])
    have E2 : Hid (addA n zs (a : Int) [b1, b2, b3, b4, b5, b6, b7, b8] = if vtB (n + 1) (addL n zs a [b1, b2, b3, b4, b5, b6, b7, b8]) = true then addL n zs a [b1, b2, b3, b4, b5, b6, b7, b8] else []) := Lib.hid (by unfold addA; rw [E0.out, Int.toNat_natCast])
    have PL := Lib.hid (fun k (hk : k < n) => par_lim hv hk)
    have eb := en_bd (zs := zs) ha
    obtain ⟨b, off, rfl, _, _⟩ := hx.at_ (by omega)
    have CC := fun (nb : Nat → Nat) ar fi la ne W h => count_any (w.alloc (.cells #[.int .i64 q, .int .i64 b1, .int .i64 b2, .int .i64 b3, .int .i64 b4, .int .i64 b5, .int .i64 b6, .int .i64 b7, .int .i64 b8] 30)).heap.size nb zs n ar fi la ne (n - a) a rfl ha W h
    obtain ⟨m, hm⟩ : ∃ m, en zs n a = m := ⟨_, rfl⟩
    rw [hm] at eb AS
    simp only [hm] at CC
    obtain ⟨al, hal⟩ : ∃ al, addL n zs a [b1, b2, b3, b4, b5, b6, b7, b8] = al := ⟨_, rfl⟩
    rw [hal] at AS E0 E2
    have CC := Lib.hid CC
    have LA := Lib.hid (show al.length = (n + 1) * 9 by rw [← AS.out]; exact insBox_len (by rw [parF_len]; exact HL.out) (by simp) (by omega))
    clear hok hx hv hm hal
    have i0 : (0 : Int) ≤ (a : Int) := by omega
    have i1 : (a : Int) < (n : Int) := by omega
    have i2 : (m : Int) ≤ 16 := by omega
    have i3 : (0 : Int) ≤ (m : Int) := by omega
    have i4 : (a : Int) + ((m : Int) - (a : Int)) = (m : Int) := by omega
    go_enter Try.func22, Try.ntmps22
    go_wp2_with fail
    refine CT.out.mono ?_
    rintro e w1 ⟨h1, nb, ar, fi, la, ne, rfl, h2⟩
    have N1 := Lib.hid (AN.out.trans h1)
    have CC := Lib.hid (CC.out nb ar fi la ne w1 h2)
    have R1 := RB.out.new h1
    have c0 := R1.c 0 (by simp); have f0 := R1.f 0 (by simp)
    simp only [List.getD_cons_zero] at c0
    have R2 := R1.set_ (k := 0) (by simp) (a : Int)
    simp only [List.set_cons_zero] at R2
    have N2 := Lib.hid (N1.out.setCell (p := ⟨w.heap.size, 0, none⟩) (Nat.le_refl _) (.int .i64 (a : Int)))
    have lb : w.heap.size < (w1.setCell ⟨w.heap.size, 0, none⟩ (.int .i64 (a : Int))).heap.size := R2.lt
    have R2 := Lib.hid R2
    have S2 := Lib.hid (HX.out.new N2.out)
    clear R1 h1 h2 CT
    go_wp2_with (go_at_call 53; refine CC.out.mono ?_; rintro e w' ⟨rfl, rfl⟩)
    refine (CloneB_any _ n c zs (by omega) _ S2.out).mono ?_
    rintro e w3 ⟨v, rfl, O3, N3⟩
    obtain ⟨g, cg, rfl, hg, _, hcg, _⟩ := O3.some_ (by omega)
    have gne : w.heap.size ≠ g := by omega
    have hgw : w.heap.size ≤ g := by omega
    have RB3 := Lib.hid (R2.out.new N3)
    have N3' := Lib.hid (N2.out.trans N3)
    have CM := Lib.hid (moveParentsO w.heap.size g n cg zs (m : Int) 1 (by omega) (fun k hk => by have := PL.out k hk; omega) (by omega) w3 (O3.weak (by omega)))
    clear O3 N3 R2 S2 c0 f0
    go_wp2_with fail
    refine CM.out.mono ?_
    rintro e w4 ⟨rfl, O4, G4⟩
    have RB4 := RB3.out.grown G4 (fun e => gne (Option.some.inj e).symm)
    have N4 := Lib.hid (new_only N3'.out hgw G4)
    have gl : g < w4.heap.size := O4.row.1.lt
    have O4 := Lib.hid O4
    have d0 := RB4.c 0 (by simp)
    have d1 := RB4.c 1 (by simp)
    have d2 := RB4.c 2 (by simp)
    have d3 := RB4.c 3 (by simp)
    have d4 := RB4.c 4 (by simp)
    have d5 := RB4.c 5 (by simp)
    have d6 := RB4.c 6 (by simp)
    have d7 := RB4.c 7 (by simp)
    have d8 := RB4.c 8 (by simp)
    simp only [List.getD_cons_zero, List.getD_cons_succ] at d0 d1 d2 d3 d4 d5 d6 d7 d8
    clear G4 CM RB4 RB3
    go_wp2_with fail
    refine (InsertBox_any w.heap.size g n cg m w4.heap.size (parF (mvp (m : Int) 1) zs) [(a : Int), b1, b2, b3, b4, b5, b6, b7, b8] (by omega) (by omega) _ (Nat.le_trans N4.out.le (by simp)) (O4.out.new (by (repeat (first | exact New.refl _ | assumption | refine New.alloc ?_ _ | refine New.drew ?_ | refine New.drewN ?_ _ | refine New.setCell ?_ (by first | omega | (simp; omega) | (simp; done)) _ | refine New.trans ?_ (by assumption))))) (by show (w4.heap.push _)[w4.heap.size]? = _; simp) rfl (by omega)).mono ?_
    rw [AS.out]
    rintro e w5 ⟨g5, c5, rfl, hg5, hc5, R5, G5⟩
    have N5 := Lib.hid (new_only (N4.out.trans (show New w4 _ by (repeat (first | exact New.refl _ | assumption | refine New.alloc ?_ _ | refine New.drew ?_ | refine New.drewN ?_ _ | refine New.setCell ?_ (by first | omega | (simp; omega) | (simp; done)) _ | refine New.trans ?_ (by assumption))))) hgw G5)
    have R5 := Lib.hid R5
    clear G5 O4
    go_wp2_with fail
    refine (ifValidTree_any (some ⟨g5, 0, none⟩) (n + 1) c5 al (by omega) _ (R5.out.sts9 LA.out)).mono ?_
    rintro e w6 ⟨h6, ⟨hf, rfl⟩ | ⟨ht, rfl⟩⟩
    · have N6 := Lib.hid (N5.out.trans h6)
      clear h6
      go_wp2
      refine bodyPost_ret (v := .tuple #[.slice none 0 0, .bool false]) (by simp [results, Try.results22, go_sem]) rfl ?_
      rw [E0.out, E2.out, hf]
      exact AnsT.no rfl N6.out
    · have N6 := Lib.hid (N5.out.trans h6)
      have R6 := Lib.hid (R5.out.new h6)
      clear h6
      go_wp2
      refine bodyPost_ret (v := .tuple #[.slice (some ⟨g5, 0, none⟩) (n + 1) c5, .bool true]) (by simp [results, Try.results22, go_sem]) rfl ?_
      rw [E0.out, E2.out, ht, if_pos rfl]
      exact ⟨_, n + 1, c5, rfl, LA.out, Res.of_row R6.out hg5, N6.out⟩
end Go.Proofs.Ytobnjagmakhgpaa
