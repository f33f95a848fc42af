/- StyleBox of the program and of the reference, walked. Condition: the tree can be read. -/
import Derived.Test.YtobnjagmakhgpaaPartS
import Derived.Test.YtobnjagmakhgpaaYB
import Derived.Test.YtobnjagmakhgpaaZF
namespace Go.Proofs.Ytobnjagmakhgpaa
open Go.RowKit

/-- The tree in which a box has another style. -/
def styL (zs : List Int) (a : Nat) (p b1 b2 b3 b4 b5 b6 b7 b8 : Int) : List Int := ((((((((zs.set (a * 9) (p)).set (a * 9 + 1) b1).set (a * 9 + 2) b2).set (a * 9 + 3) b3).set (a * 9 + 4) b4).set (a * 9 + 5) b5).set (a * 9 + 6) b6).set (a * 9 + 7) b7).set (a * 9 + 8) b8
theorem styL_len (zs : List Int) (a : Nat) (p b1 b2 b3 b4 b5 b6 b7 b8 : Int) : (styL zs a p b1 b2 b3 b4 b5 b6 b7 b8).length = zs.length := by simp [styL]
def styOk (n : Nat) (zs : List Int) (at_ b1 b2 b3 b4 b5 b6 b7 b8 : Int) : Bool := nodeOk n zs at_ && vtB n (styL zs at_.toNat (par zs at_.toNat) b1 b2 b3 b4 b5 b6 b7 b8)
def styA (n : Nat) (zs : List Int) (at_ b1 b2 b3 b4 b5 b6 b7 b8 : Int) : List Int := if styOk n zs at_ b1 b2 b3 b4 b5 b6 b7 b8 = true then styL zs at_.toNat (par zs at_.toNat) b1 b2 b3 b4 b5 b6 b7 b8 else []
theorem styA_len {n : Nat} {zs : List Int} (hz : zs.length = n * 9) (at_ b1 b2 b3 b4 b5 b6 b7 b8 : Int) : (styA n zs at_ b1 b2 b3 b4 b5 b6 b7 b8).length ≤ 144 := by
  unfold styA
  split
  · next h =>
    unfold styOk at h
    rw [Bool.and_eq_true] at h
    have h16 := (vtB_iff.1 h.2).1
    rw [styL_len, hz]; omega
  · simp
theorem styNo {n : Nat} {zs : List Int} {at_ : Int} (h : nodeOk n zs at_ = false) (b1 b2 b3 b4 b5 b6 b7 b8 : Int) : styOk n zs at_ b1 b2 b3 b4 b5 b6 b7 b8 = false ∧ styA n zs at_ b1 b2 b3 b4 b5 b6 b7 b8 = [] := by
  have h1 : styOk n zs at_ b1 b2 b3 b4 b5 b6 b7 b8 = false := by unfold styOk; rw [h]; rfl
  exact ⟨h1, by unfold styA; rw [h1]; rfl⟩
theorem Row.sty {w : World} {g n a : Nat} {zs : List Int} (h : Row w g zs) (hz : zs.length = n * 9) (ha : a < n) (p b1 b2 b3 b4 b5 b6 b7 b8 : Int) :
    Row (((((((((w.setCell ⟨g, a * 9, none⟩ (.int .i64 p)).setCell ⟨g, a * 9 + 1, none⟩ (.int .i64 b1)).setCell ⟨g, a * 9 + 2, none⟩ (.int .i64 b2)).setCell ⟨g, a * 9 + 3, none⟩ (.int .i64 b3)).setCell ⟨g, a * 9 + 4, none⟩ (.int .i64 b4)).setCell ⟨g, a * 9 + 5, none⟩ (.int .i64 b5)).setCell ⟨g, a * 9 + 6, none⟩ (.int .i64 b6)).setCell ⟨g, a * 9 + 7, none⟩ (.int .i64 b7)).setCell ⟨g, a * 9 + 8, none⟩ (.int .i64 b8)) g (styL zs a p b1 b2 b3 b4 b5 b6 b7 b8) := by
  unfold styL
  have r := h.set_ (k := a * 9) (by omega) p
  have r := r.set_ (k := a * 9 + 1) (by simp only [List.length_set]; omega) b1
  have r := r.set_ (k := a * 9 + 2) (by simp only [List.length_set]; omega) b2
  have r := r.set_ (k := a * 9 + 3) (by simp only [List.length_set]; omega) b3
  have r := r.set_ (k := a * 9 + 4) (by simp only [List.length_set]; omega) b4
  have r := r.set_ (k := a * 9 + 5) (by simp only [List.length_set]; omega) b5
  have r := r.set_ (k := a * 9 + 6) (by simp only [List.length_set]; omega) b6
  have r := r.set_ (k := a * 9 + 7) (by simp only [List.length_set]; omega) b7
  have r := r.set_ (k := a * 9 + 8) (by simp only [List.length_set]; omega) b8
  exact r
set_option maxHeartbeats 400000 in
theorem ifValidTree_any (A : Option Addr) (n c : Nat) (zs : List Int) (hn : n ≤ 1048576) (w : World) (hx : Sts 9 w A n zs) :
    Calls Try.prog 59 #[.slice A n c] w fun e w' => New w w' ∧ ((vtB n zs = false ∧ e = .returned (.tuple #[.slice none 0 0, .bool false])) ∨ (vtB n zs = true ∧ e = .returned (.tuple #[.slice A n c, .bool true]))) := by
  have CT := Lib.hid (ValidTree_any A n c zs hn w hx)
  clear hx
  cases hv : vtB n zs
  · go_enter Try.func59, Try.ntmps59
    go_wp2_with fail
    refine CT.out.mono ?_
    rw [hv]
    rintro e w1 ⟨rfl, h1⟩
    have N1 := Lib.hid h1
    clear h1
    go_wp2
    refine bodyPost_ret (v := .tuple #[.slice none 0 0, .bool false]) (by simp [results, Try.results59, go_sem]) rfl ?_
    exact ⟨N1.out, .inl ⟨by first | rfl | trivial, rfl⟩⟩
  · go_enter Try.func59, Try.ntmps59
    go_wp2_with fail
    refine CT.out.mono ?_
    rw [hv]
    rintro e w1 ⟨rfl, h1⟩
    have N1 := Lib.hid h1
    clear h1
    go_wp2
    refine bodyPost_ret (v := .tuple #[.slice A n c, .bool true]) (by simp [results, Try.results59, go_sem]) rfl ?_
    exact ⟨N1.out, .inr ⟨by first | rfl | trivial, rfl⟩⟩
set_option maxRecDepth 100000 in
set_option maxHeartbeats 4000000 in
theorem StyleBox_ansT (A : Option Addr) (n c : Nat) (zs : List Int) (at_ q b1 b2 b3 b4 b5 b6 b7 b8 : Int) (hn : n ≤ 1048576) (w : World) (hx : Sts 9 w A n zs) :
    Calls Try.prog 26 #[.slice A n c, .int .i64 at_, .agg #[.int .i64 q, .int .i64 b1, .int .i64 b2, .int .i64 b3, .int .i64 b4, .int .i64 b5, .int .i64 b6, .int .i64 b7, .int .i64 b8]] w (AnsT 9 w (styOk n zs at_ b1 b2 b3 b4 b5 b6 b7 b8) (styA n zs at_ b1 b2 b3 b4 b5 b6 b7 b8)) := by
  have HX := Lib.hid hx; have HL := Lib.hid hx.len
  have AN := Lib.hid (show New w (w.alloc (.cells #[.int .i64 q, .int .i64 b1, .int .i64 b2, .int .i64 b3, .int .i64 b4, .int .i64 b5, .int .i64 b6, .int .i64 b7, .int .i64 b8] 30)) by (repeat (first | exact New.refl _ | assumption | refine New.alloc ?_ _ | refine New.drew ?_ | refine New.drewN ?_ _ | refine New.setCell ?_ (by first | omega | (simp; omega) | (simp; done)) _ | refine New.trans ?_ (by assumption))))
  have RB := Lib.hid (Row.oneBox w q b1 b2 b3 b4 b5 b6 b7 b8 30)
  cases hok : nodeOk n zs at_
  · obtain ⟨e1, e2⟩ := styNo hok b1 b2 b3 b4 b5 b6 b7 b8
    have E1 := Lib.hid e1; have E2 := Lib.hid e2
    have CT := Lib.hid (nodeAt_no A n c zs at_ hn hok _ (hx.new AN.out))
    clear hok hx e1 e2
    go_enter Try.func26, Try.ntmps26
    go_wp2_with (go_at_call 44; refine CT.out.mono ?_; rintro e w1 ⟨rfl, h1⟩; (have N1 := Lib.hid (AN.out.trans h1)); clear h1)
    refine bodyPost_ret (v := .tuple #[.slice none 0 0, .bool false]) (by simp [results, Try.results26, go_sem]) rfl ?_
    rw [E1.out, E2.out]
    exact AnsT.no rfl N1.out
  · obtain ⟨hv, a, rfl, ha⟩ := nodeOk_iff.1 hok
    have hn16 := (vtB_iff.1 hv).1
    have CT := Lib.hid (nodeAt_yes A n c a zs hv ha _ (hx.new AN.out))
    have E0 : Hid (styOk n zs (a : Int) b1 b2 b3 b4 b5 b6 b7 b8 = vtB n (styL zs a (par zs a) b1 b2 b3 b4 b5 b6 b7 b8)) := Lib.hid (by unfold styOk; rw [hok, Bool.true_and, Int.toNat_natCast])
    have E2 : Hid (styA n zs (a : Int) b1 b2 b3 b4 b5 b6 b7 b8 = if vtB n (styL zs a (par zs a) b1 b2 b3 b4 b5 b6 b7 b8) = true then styL zs a (par zs a) b1 b2 b3 b4 b5 b6 b7 b8 else []) := Lib.hid (by unfold styA; rw [E0.out, Int.toNat_natCast])
    obtain ⟨b, off, rfl, hb, hc⟩ := hx.at_ (by omega)
    have t0 : w.cell? ⟨b, off + a * 9, none⟩ = some (.int .i64 (par zs a)) := hc (a * 9) (by omega)
    have HB := Lib.hid hb
    have HV := Lib.hid hv
    generalize par zs a = p at *
    clear hok hx hv hc hb
    have i0 : (0 : Int) ≤ (a : Int) := by omega
    have i1 : (a : Int) < (n : Int) := by omega
    go_enter Try.func26, Try.ntmps26
    go_wp2_with fail
    refine CT.out.mono ?_
    rintro e w1 ⟨h1, nb, ar, fi, la, ne, rfl, _⟩
    have N1 := Lib.hid (AN.out.trans h1)
    have R1 := RB.out.new h1
    have c0 := R1.c 0 (by simp); have f0 := R1.f 0 (by simp)
    simp only [List.getD_cons_zero] at c0
    have t1 := (N1.out.cells b _ HB.out).trans t0
    have R2 := R1.set_ (k := 0) (by simp) p
    simp only [List.set_cons_zero] at R2
    have N2 := Lib.hid (N1.out.setCell (p := ⟨w.heap.size, 0, none⟩) (Nat.le_refl _) (.int .i64 p))
    have R2 := Lib.hid R2
    have S2 := Lib.hid (HX.out.new N2.out)
    clear R1 h1 t0 CT
    go_wp2_with fail
    refine (CloneB_any _ n c zs (by omega) _ S2.out).mono ?_
    rintro e w3 ⟨v, rfl, O3, N3⟩
    obtain ⟨g, cg, rfl, hg, R3, hcg, L3⟩ := O3.some_ (by omega)
    have RB3 := R2.out.new N3
    have d0 := RB3.c 0 (by simp)
    have d1 := RB3.c 1 (by simp)
    have d2 := RB3.c 2 (by simp)
    have d3 := RB3.c 3 (by simp)
    have d4 := RB3.c 4 (by simp)
    have d5 := RB3.c 5 (by simp)
    have d6 := RB3.c 6 (by simp)
    have d7 := RB3.c 7 (by simp)
    have d8 := RB3.c 8 (by simp)
    simp only [List.getD_cons_zero, List.getD_cons_succ] at d0 d1 d2 d3 d4 d5 d6 d7 d8
    have fz := fun j (hj : j < n * 9) => R3.f j (by rw [L3]; exact hj)
    have cz := fun j (hj : j < n * 9) => R3.c j (by rw [L3]; exact hj)
    have f0 := fz (a * 9) (by omega); have o0 := cz (a * 9) (by omega)
    have f1 := fz (a * 9 + 1) (by omega); have o1 := cz (a * 9 + 1) (by omega)
    have f2 := fz (a * 9 + 2) (by omega); have o2 := cz (a * 9 + 2) (by omega)
    have f3 := fz (a * 9 + 3) (by omega); have o3 := cz (a * 9 + 3) (by omega)
    have f4 := fz (a * 9 + 4) (by omega); have o4 := cz (a * 9 + 4) (by omega)
    have f5 := fz (a * 9 + 5) (by omega); have o5 := cz (a * 9 + 5) (by omega)
    have f6 := fz (a * 9 + 6) (by omega); have o6 := cz (a * 9 + 6) (by omega)
    have f7 := fz (a * 9 + 7) (by omega); have o7 := cz (a * 9 + 7) (by omega)
    have f8 := fz (a * 9 + 8) (by omega); have o8 := cz (a * 9 + 8) (by omega)
    generalize zs.getD (a * 9) 0 = z0 at o0
    generalize zs.getD (a * 9 + 1) 0 = z1 at o1
    generalize zs.getD (a * 9 + 2) 0 = z2 at o2
    generalize zs.getD (a * 9 + 3) 0 = z3 at o3
    generalize zs.getD (a * 9 + 4) 0 = z4 at o4
    generalize zs.getD (a * 9 + 5) 0 = z5 at o5
    generalize zs.getD (a * 9 + 6) 0 = z6 at o6
    generalize zs.getD (a * 9 + 7) 0 = z7 at o7
    generalize zs.getD (a * 9 + 8) 0 = z8 at o8
    have R4 := Lib.hid (R3.sty L3 ha p b1 b2 b3 b4 b5 b6 b7 b8)
    have hgw : w.heap.size ≤ g := Nat.le_trans N2.out.le hg
    have NN := N2.out.trans N3
    have N4 := Lib.hid (New.setCell (New.setCell (New.setCell (New.setCell (New.setCell (New.setCell (New.setCell (New.setCell (New.setCell (NN) (p := ⟨g, a * 9, none⟩) hgw (.int .i64 p)) (p := ⟨g, a * 9 + 1, none⟩) hgw (.int .i64 b1)) (p := ⟨g, a * 9 + 2, none⟩) hgw (.int .i64 b2)) (p := ⟨g, a * 9 + 3, none⟩) hgw (.int .i64 b3)) (p := ⟨g, a * 9 + 4, none⟩) hgw (.int .i64 b4)) (p := ⟨g, a * 9 + 5, none⟩) hgw (.int .i64 b5)) (p := ⟨g, a * 9 + 6, none⟩) hgw (.int .i64 b6)) (p := ⟨g, a * 9 + 7, none⟩) hgw (.int .i64 b7)) (p := ⟨g, a * 9 + 8, none⟩) hgw (.int .i64 b8))
    clear fz cz RB3 R3 O3 N3 S2 R2 NN
    go_wp2_with fail
    refine (ifValidTree_any (some ⟨g, 0, none⟩) n cg (styL zs a p b1 b2 b3 b4 b5 b6 b7 b8) hn _ (R4.out.sts9 (by rw [styL_len]; exact HL.out))).mono ?_
    rintro e w5 ⟨h5, ⟨hf, rfl⟩ | ⟨ht, rfl⟩⟩
    · have N5 := Lib.hid (N4.out.trans h5)
      clear h5
      go_wp2
      refine bodyPost_ret (v := .tuple #[.slice none 0 0, .bool false]) (by simp [results, Try.results26, go_sem]) rfl ?_
      rw [E0.out, E2.out, hf]
      exact AnsT.no rfl N5.out
    · have N5 := Lib.hid (N4.out.trans h5)
      have R5 := Lib.hid (R4.out.new h5)
      clear h5
      go_wp2
      refine bodyPost_ret (v := .tuple #[.slice (some ⟨g, 0, none⟩) n cg, .bool true]) (by simp [results, Try.results26, go_sem]) rfl ?_
      rw [E0.out, E2.out, ht, if_pos rfl]
      exact ⟨_, n, cg, rfl, by rw [styL_len]; exact HL.out, Res.of_row R5.out hgw, N5.out⟩
set_option maxRecDepth 100000 in
set_option maxHeartbeats 4000000 in
theorem SStyleBox_ansT (A : Option Addr) (n c : Nat) (zs : List Int) (at_ q b1 b2 b3 b4 b5 b6 b7 b8 : Int) (hn : n ≤ 1048576) (w : World) (hx : Sts 9 w A n zs) :
    Calls Try.prog 28 #[.slice A n c, .int .i64 at_, .agg #[.int .i64 q, .int .i64 b1, .int .i64 b2, .int .i64 b3, .int .i64 b4, .int .i64 b5, .int .i64 b6, .int .i64 b7, .int .i64 b8]] w (AnsT 9 w (styOk n zs at_ b1 b2 b3 b4 b5 b6 b7 b8) (styA n zs at_ b1 b2 b3 b4 b5 b6 b7 b8)) := by
  have HX := Lib.hid hx; have HL := Lib.hid hx.len
  have AN := Lib.hid (show New w (w.alloc (.cells #[.int .i64 q, .int .i64 b1, .int .i64 b2, .int .i64 b3, .int .i64 b4, .int .i64 b5, .int .i64 b6, .int .i64 b7, .int .i64 b8] 30)) by (repeat (first | exact New.refl _ | assumption | refine New.alloc ?_ _ | refine New.drew ?_ | refine New.drewN ?_ _ | refine New.setCell ?_ (by first | omega | (simp; omega) | (simp; done)) _ | refine New.trans ?_ (by assumption))))
  have RB := Lib.hid (Row.oneBox w q b1 b2 b3 b4 b5 b6 b7 b8 30)
  have n0 : (0 : Int) ≤ (n : Int) := by omega
  have n1 : (n : Int) ≤ 1048576 := by omega
  have CT := Lib.hid (svalidTree_any A n c zs hn _ (hx.new AN.out))
  cases hok : nodeOk n zs at_
  · obtain ⟨e1, e2⟩ := styNo hok b1 b2 b3 b4 b5 b6 b7 b8
    have E1 := Lib.hid e1; have E2 := Lib.hid e2
    rcases noBox_cases hok with hv | ⟨hv, hd⟩
    · have HV := Lib.hid hv
      clear hok hx hv e1 e2
      go_enter Try.func28, Try.ntmps28
      go_wp2_with (go_at_call 41; refine CT.out.mono ?_; rw [HV.out]; rintro e w1 ⟨rfl, h1⟩; (have N1 := Lib.hid (AN.out.trans h1)); clear h1)
      refine bodyPost_ret (v := .tuple #[.slice none 0 0, .bool false]) (by simp [results, Try.results28, go_sem]) rfl ?_
      rw [E1.out, E2.out]
      exact AnsT.no rfl N1.out
    · have HV := Lib.hid hv
      clear hok hx hv e1 e2
      go_enter Try.func28, Try.ntmps28
      go_wp2_with (first
        | (go_at_call 41; refine CT.out.mono ?_; rw [HV.out]; rintro e w1 ⟨rfl, h1⟩; (have N1 := Lib.hid (AN.out.trans h1)); clear h1)
        | (go_at_call 42; refine (inRange_any _ _ _ _).mono ?_; rw [hd]; rintro e w' ⟨rfl, rfl⟩))
      refine bodyPost_ret (v := .tuple #[.slice none 0 0, .bool false]) (by simp [results, Try.results28, go_sem]) rfl ?_
      rw [E1.out, E2.out]
      exact AnsT.no rfl N1.out
  · obtain ⟨hv, a, rfl, ha⟩ := nodeOk_iff.1 hok
    have hn16 := (vtB_iff.1 hv).1
    have hd : decide (0 ≤ (a : Int) ∧ (a : Int) ≤ (n : Int) - 1) = true := decide_eq_true (by omega)
    have E0 : Hid (styOk n zs (a : Int) b1 b2 b3 b4 b5 b6 b7 b8 = vtB n (styL zs a (par zs a) b1 b2 b3 b4 b5 b6 b7 b8)) := Lib.hid (by unfold styOk; rw [hok, Bool.true_and, Int.toNat_natCast])
    have E2 : Hid (styA n zs (a : Int) b1 b2 b3 b4 b5 b6 b7 b8 = if vtB n (styL zs a (par zs a) b1 b2 b3 b4 b5 b6 b7 b8) = true then styL zs a (par zs a) b1 b2 b3 b4 b5 b6 b7 b8 else []) := Lib.hid (by unfold styA; rw [E0.out, Int.toNat_natCast])
    obtain ⟨p, hp⟩ : ∃ p, par zs a = p := ⟨_, rfl⟩
    have HP := Lib.hid hp
    rw [hp] at E0 E2
    have HV := Lib.hid hv
    obtain ⟨b, off, rfl, hb, hc⟩ := hx.at_ (by omega)
    clear hok hx hv hb hc hp
    have i0 : (0 : Int) ≤ (a : Int) := by omega
    have i1 : (a : Int) < (n : Int) := by omega
    go_enter Try.func28, Try.ntmps28
    go_wp2_with fail
    refine CT.out.mono ?_
    rw [HV.out]
    rintro e w1 ⟨rfl, h1⟩
    have N1 := Lib.hid (AN.out.trans h1)
    have R1 := Lib.hid (RB.out.new h1)
    have s1 := N1.out.le
    have S1 := Lib.hid (HX.out.new (N1.out.alloc (.cells #[] 30)))
    clear h1 CT
    go_upto_region 4 with (first
      | (go_at_call 42; refine (inRange_any _ _ _ _).mono ?_; rw [hd]; rintro e w' ⟨rfl, rfl⟩)
      | (at_builtin; refine wp_appBoxN rfl _ _ rfl w1.heap.size _ 0 [] rfl (OwnBox.empty w1 (Nat.le_refl _)) (some ⟨b, off, none⟩) n c zs rfl S1.out (by omega) (by simp) ?_; intro v2 w3 O2 G2; (have N3 := Lib.hid (new_ownBox (New.alloc (New.refl w1) _) G2 (OwnBox.empty w1 (Nat.le_refl _)) (Nat.le_refl _))); (rw [List.nil_append, Nat.zero_add] at O2); (obtain ⟨g, cg, rfl, hg, R3, hcg, L3⟩ := O2.some_ (by omega)); clear G2 O2; (have q0 := R3.c (a * 9) (by rw [L3]; omega)); (rw [show zs.getD (a * 9) 0 = p from HP.out] at q0); (have RB2 := R1.out.new N3.out); (have c0 := RB2.c 0 (by simp)); (have f0 := RB2.f 0 (by simp)); (simp only [List.getD_cons_zero] at c0); clear RB2))
    have RB3 := ((R1.out.new N3.out).set_ (k := 0) (by simp) p)
    simp only [List.set_cons_zero] at RB3
    have d0 := RB3.c 0 (by simp)
    have d1 := RB3.c 1 (by simp)
    have d2 := RB3.c 2 (by simp)
    have d3 := RB3.c 3 (by simp)
    have d4 := RB3.c 4 (by simp)
    have d5 := RB3.c 5 (by simp)
    have d6 := RB3.c 6 (by simp)
    have d7 := RB3.c 7 (by simp)
    have d8 := RB3.c 8 (by simp)
    simp only [List.getD_cons_zero, List.getD_cons_succ] at d0 d1 d2 d3 d4 d5 d6 d7 d8
    have gne : g ≠ w.heap.size := by have := AN.out.le; have h3 : w.heap.size < w1.heap.size := (R1.out.lt); omega
    have R3 := R3.far (p := ⟨w.heap.size, 0, none⟩) (fun e => gne e.symm) (.int .i64 p)
    have fz := fun j (hj : j < n * 9) => R3.f j (by rw [L3]; exact hj)
    have cz := fun j (hj : j < n * 9) => R3.c j (by rw [L3]; exact hj)
    have f0' := fz (a * 9) (by omega); have o0 := cz (a * 9) (by omega)
    have f1' := fz (a * 9 + 1) (by omega); have o1 := cz (a * 9 + 1) (by omega)
    have f2' := fz (a * 9 + 2) (by omega); have o2 := cz (a * 9 + 2) (by omega)
    have f3' := fz (a * 9 + 3) (by omega); have o3 := cz (a * 9 + 3) (by omega)
    have f4' := fz (a * 9 + 4) (by omega); have o4 := cz (a * 9 + 4) (by omega)
    have f5' := fz (a * 9 + 5) (by omega); have o5 := cz (a * 9 + 5) (by omega)
    have f6' := fz (a * 9 + 6) (by omega); have o6 := cz (a * 9 + 6) (by omega)
    have f7' := fz (a * 9 + 7) (by omega); have o7 := cz (a * 9 + 7) (by omega)
    have f8' := fz (a * 9 + 8) (by omega); have o8 := cz (a * 9 + 8) (by omega)
    generalize zs.getD (a * 9) 0 = z0 at o0
    generalize zs.getD (a * 9 + 1) 0 = z1 at o1
    generalize zs.getD (a * 9 + 2) 0 = z2 at o2
    generalize zs.getD (a * 9 + 3) 0 = z3 at o3
    generalize zs.getD (a * 9 + 4) 0 = z4 at o4
    generalize zs.getD (a * 9 + 5) 0 = z5 at o5
    generalize zs.getD (a * 9 + 6) 0 = z6 at o6
    generalize zs.getD (a * 9 + 7) 0 = z7 at o7
    generalize zs.getD (a * 9 + 8) 0 = z8 at o8
    have R4 := Lib.hid (R3.sty L3 ha p b1 b2 b3 b4 b5 b6 b7 b8)
    have hgw : w.heap.size ≤ g := Nat.le_trans N1.out.le hg
    have NN := (N1.out.trans N3.out).setCell (p := ⟨w.heap.size, 0, none⟩) (Nat.le_refl _) (.int .i64 p)
    have N4 := Lib.hid (New.setCell (New.setCell (New.setCell (New.setCell (New.setCell (New.setCell (New.setCell (New.setCell (New.setCell (NN) (p := ⟨g, a * 9, none⟩) hgw (.int .i64 p)) (p := ⟨g, a * 9 + 1, none⟩) hgw (.int .i64 b1)) (p := ⟨g, a * 9 + 2, none⟩) hgw (.int .i64 b2)) (p := ⟨g, a * 9 + 3, none⟩) hgw (.int .i64 b3)) (p := ⟨g, a * 9 + 4, none⟩) hgw (.int .i64 b4)) (p := ⟨g, a * 9 + 5, none⟩) hgw (.int .i64 b5)) (p := ⟨g, a * 9 + 6, none⟩) hgw (.int .i64 b6)) (p := ⟨g, a * 9 + 7, none⟩) hgw (.int .i64 b7)) (p := ⟨g, a * 9 + 8, none⟩) hgw (.int .i64 b8))
    clear fz cz RB3 R3 NN
    go_wp2_with fail
    refine (svalidTree_any (some ⟨g, 0, none⟩) n cg (styL zs a p b1 b2 b3 b4 b5 b6 b7 b8) hn _ (R4.out.sts9 (by rw [styL_len]; exact HL.out))).mono ?_
    cases hvt : vtB n (styL zs a p b1 b2 b3 b4 b5 b6 b7 b8)
    · rintro e w5 ⟨rfl, h5⟩
      have N5 := Lib.hid (N4.out.trans h5)
      clear h5
      go_wp2
      refine bodyPost_ret (v := .tuple #[.slice none 0 0, .bool false]) (by simp [results, Try.results28, go_sem]) rfl ?_
      rw [E0.out, E2.out, hvt]
      exact AnsT.no rfl N5.out
    · rintro e w5 ⟨rfl, h5⟩
      have N5 := Lib.hid (N4.out.trans h5)
      have R5 := Lib.hid (R4.out.new h5)
      clear h5
      go_wp2
      refine bodyPost_ret (v := .tuple #[.slice (some ⟨g, 0, none⟩) n cg, .bool true]) (by simp [results, Try.results28, go_sem]) rfl ?_
      rw [E0.out, E2.out, hvt, if_pos rfl]
      exact ⟨_, n, cg, rfl, by rw [styL_len]; exact HL.out, Res.of_row R5.out hgw, N5.out⟩
end Go.Proofs.Ytobnjagmakhgpaa
