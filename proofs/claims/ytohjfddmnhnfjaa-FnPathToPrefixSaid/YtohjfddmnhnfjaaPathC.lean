/- CommonBox of the program and of the reference, walked. Condition: the tree can be read. -/
import Derived.Test.YtohjfddmnhnfjaaPathS
namespace Go.Proofs.Ytohjfddmnhnfjaa
open Go.RowKit

theorem comK_comA (n : Nat) (zs : List Int) (a b : Int) : comK (pathA n zs a) (pathA n zs b) (pathA n zs a).length = comA n zs a b := by
  cases ha : nodeOk n zs a
  · rw [pathA_no ha]; unfold comA; rw [ha]; rfl
  · cases hb : nodeOk n zs b
    · rw [pathA_no hb, comK_nil]; unfold comA; rw [hb, Bool.and_false]; rfl
    · obtain ⟨hv, i, rfl, hi⟩ := nodeOk_iff.1 ha
      obtain ⟨_, j, rfl, hj⟩ := nodeOk_iff.1 hb
      rw [pathA_at hv hi, pathA_at hv hj, List.length_map, comK_all (link_vt hv) hi hj]
      unfold comA
      rw [ha, hb, Int.toNat_natCast, Int.toNat_natCast]; rfl
set_option maxHeartbeats 1600000 in
theorem CommonBox_any (A : Option Addr) (n c : Nat) (zs : List Int) (a b : Int) (hn : n ≤ 1048576) (w : World) (hx : Sts 9 w A n zs) :
    Calls Try.prog 25 #[.slice A n c, .int .i64 a, .int .i64 b] w fun e w' => e = .returned (.int .i64 (comA n zs a b)) ∧ New w w' := by
  have HX := Lib.hid hx
  have LA := Lib.hid (pathA_len n zs a); have LB := Lib.hid (pathA_len n zs b)
  have EC := Lib.hid (comK_comA n zs a b)
  clear hx
  go_enter Try.func25, Try.ntmps25
  go_wp2_with fail
  refine (PathTo_ans A n c zs b hn _ HX.out).mono ?_
  rintro e w1 ⟨A1, n1, c1, rfl, l1, r1, N1⟩
  have s1 := N1.le
  have R1 := Lib.hid r1; have L1 := Lib.hid l1; have N1 := Lib.hid N1
  clear r1 l1
  go_wp2_with fail
  refine (PathTo_ans A n c zs a hn _ (HX.out.new N1.out)).mono ?_
  rintro e w2 ⟨A2, n2, c2, rfl, l2, r2, N2⟩
  have s2 := N2.le
  have R1 := Lib.hid (R1.out.new N2)
  have R2 := Lib.hid r2; have L2 := Lib.hid l2; have N2 := Lib.hid (N1.out.trans N2)
  clear r2 l2
  have I1 := Lib.hid (R1.out.ints L1.out)
  have I2 := Lib.hid (R2.out.ints L2.out)
  have m1 : (n1 : Int) ≤ 16 := by have := L1.out; have := LB.out; omega
  have m2 : (n2 : Int) ≤ 16 := by have := L2.out; have := LA.out; omega
  have p1 : (0 : Int) ≤ (n1 : Int) := by omega
  generalize pathA n zs a = xs at *
  generalize pathA n zs b = ys at *
  go_wp2
  go_loopw [7, 18] (fun x i wr => wr = w2 ∧ ∃ k : Nat, k ≤ n2 ∧ i = .int .i64 (k : Int) ∧ x = .int .i64 (comK xs ys k)) (fun _ i _ => n2 - (intOf i).toNat)
  case atStart => exact ⟨rfl, 0, Nat.zero_le _, rfl, rfl⟩
  case round =>
    obtain ⟨rfl, k, hk, rfl, rfl⟩ := hrel
    have k0 : (0 : Int) ≤ (k : Int) := by omega
    by_cases hlt : k < n2
    · have k2 : (k : Int) < (n2 : Int) := by omega
      obtain ⟨b2, off2, rfl, hb2, hc2⟩ := I2.out.at_ (by omega)
      have g2 := hc2 k hlt
      have EH := Lib.hid (fun h => comK_hit (A := xs) (B := ys) (k := k) h)
      have EN := Lib.hid (fun h => comK_no (A := xs) (B := ys) (k := k) h)
      clear hc2
      by_cases h1 : k < n1
      · obtain ⟨b1, off1, rfl, hb1, hc1⟩ := I1.out.at_ (by omega)
        have g1 := hc1 k h1
        have k1 : (k : Int) < (n1 : Int) := by omega
        clear hc1
        by_cases he : ys.getD k 0 = xs.getD k 0
        · have E2 := Lib.hid (EH.out ⟨by rw [L1.out]; exact h1, he⟩)
          rw [he] at g1
          clear he EH EN
          generalize xs.getD k 0 = x at g1 g2 E2
          generalize comK xs ys k = z
          go_wp2
          go_roundw
          case rel => exact ⟨trivial, k + 1, by omega, by go_num, by rw [E2.out]⟩
          case measure => simp [intOf]; omega
        · have E2 := Lib.hid (EN.out fun h => he h.2)
          have hb : (ys.getD k 0 == xs.getD k 0) = false := by simpa using he
          clear he EH EN
          generalize xs.getD k 0 = x at g2 hb
          generalize ys.getD k 0 = y at g1 hb
          generalize comK xs ys k = z at E2 ⊢
          go_wp2
          go_roundw
          case rel => exact ⟨trivial, k + 1, by omega, by go_num, by rw [E2.out]⟩
          case measure => simp [intOf]; omega
      · have E2 := Lib.hid (EN.out fun h => h1 (by have := h.1; rw [L1.out] at this; exact this))
        have k1 : (n1 : Int) ≤ (k : Int) := by omega
        have hd : decide (k < n1) = false := decide_eq_false h1
        clear EH EN h1
        generalize xs.getD k 0 = x at g2
        generalize comK xs ys k = z at E2 ⊢
        go_wp2
        go_roundw
        case rel => exact ⟨trivial, k + 1, by omega, by go_num, by rw [E2.out]⟩
        case measure => simp [intOf]; omega
    · obtain rfl : k = n2 := by omega
      have E2 := Lib.hid (show comK xs ys k = comA n zs a b by rw [← L2.out]; exact EC.out)
      generalize comK xs ys k = z at E2 ⊢
      go_wp2
      go_ret
      exact ⟨by rw [← E2.out]; rfl, N2.out⟩
set_option maxHeartbeats 1600000 in
theorem SCommonBox_any (A : Option Addr) (n c : Nat) (zs : List Int) (a b : Int) (hn : n ≤ 1048576) (w : World) (hx : Sts 9 w A n zs) :
    Calls Try.prog 24 #[.slice A n c, .int .i64 a, .int .i64 b] w fun e w' => e = .returned (.int .i64 (comA n zs a b)) ∧ New w w' := by
  have HX := Lib.hid hx
  have CT := Lib.hid (svalidTree_any A n c zs hn w hx)
  have n0 : (0 : Int) ≤ (n : Int) := by omega
  have n1 : (n : Int) ≤ 1048576 := by omega
  clear hx
  cases hv : vtB n zs
  · have E1 := Lib.hid (show comA n zs a b = -1 by unfold comA nodeOk; rw [hv]; rfl)
    have HV := Lib.hid hv
    clear hv
    go_enter Try.func24, Try.ntmps24
    go_wp2_with (go_at_call 36; refine CT.out.mono ?_; rw [HV.out]; rintro e w1 ⟨rfl, h1⟩; (have N1 := Lib.hid h1); clear h1)
    go_ret
    exact ⟨by rw [E1.out]; rfl, N1.out⟩
  · have HV := Lib.hid hv
    cases hd : decide (0 ≤ a ∧ a ≤ (n : Int) - 1)
    · have E1 := Lib.hid (show comA n zs a b = -1 by unfold comA nodeOk; rw [hv, hd]; rfl)
      clear hv
      go_enter Try.func24, Try.ntmps24
      go_wp2_with (first
        | (go_at_call 36; refine CT.out.mono ?_; rw [HV.out]; rintro e w1 ⟨rfl, h1⟩; (have N1 := Lib.hid h1); clear h1)
        | (go_at_call 37; refine (inRange_any _ _ _ _).mono ?_; rw [hd]; rintro e w' ⟨rfl, rfl⟩))
      go_ret
      exact ⟨by rw [E1.out]; rfl, N1.out⟩
    · cases hd2 : decide (0 ≤ b ∧ b ≤ (n : Int) - 1)
      · have E1 := Lib.hid (show comA n zs a b = -1 by unfold comA nodeOk; rw [hv, hd, hd2]; rfl)
        clear hv
        go_enter Try.func24, Try.ntmps24
        go_wp2_with fail
        refine CT.out.mono ?_
        rw [HV.out]
        rintro e w1 ⟨rfl, h1⟩
        have N1 := Lib.hid h1
        clear h1
        go_wp2_with fail
        refine (inRange_any _ _ _ _).mono ?_
        rw [hd]
        rintro e w' ⟨rfl, rfl⟩
        go_wp2_with fail
        refine (inRange_any _ _ _ _).mono ?_
        rw [hd2]
        rintro e w' ⟨rfl, rfl⟩
        go_wp2
        go_ret
        exact ⟨by rw [E1.out]; rfl, N1.out⟩
      · have hok : nodeOk n zs a = true := by unfold nodeOk; rw [hv, hd]; rfl
        have hok2 : nodeOk n zs b = true := by unfold nodeOk; rw [hv, hd2]; rfl
        obtain ⟨_, i, rfl, hi⟩ := nodeOk_iff.1 hok
        obtain ⟨_, j, rfl, hj⟩ := nodeOk_iff.1 hok2
        have HU := Lib.hid (link_vt hv)
        have E1 := Lib.hid (show comA n zs (i : Int) (j : Int) = (comL zs j i : Nat) by unfold comA; rw [hok, hok2, Int.toNat_natCast, Int.toNat_natCast]; rfl)
        clear hv hok hok2
        go_enter Try.func24, Try.ntmps24
        go_wp2_with fail
        refine CT.out.mono ?_
        rw [HV.out]
        rintro e w1 ⟨rfl, h1⟩
        have N1 := Lib.hid h1
        clear h1
        go_wp2_with fail
        refine (inRange_any _ _ _ _).mono ?_
        rw [hd]
        rintro e w' ⟨rfl, rfl⟩
        go_wp2_with fail
        refine (inRange_any _ _ _ _).mono ?_
        rw [hd2]
        rintro e w' ⟨rfl, rfl⟩
        go_wp2
        go_loopw [1] (fun x wr => wr = w1 ∧ ∃ k : Nat, k < n ∧ x = .int .i64 (k : Int) ∧ Hid (comL zs j k = comL zs j i)) (fun x _ => (intOf x).toNat)
        case atStart => exact ⟨rfl, i, hi, rfl, Lib.hid rfl⟩
        case round =>
          obtain ⟨rfl, k, hk, rfl, HE⟩ := hrel
          have AT := Lib.hid (saround_any A n c j k zs hn hj HU.out.ups wr (HX.out.new N1.out))
          have k0 : (0 : Int) ≤ (k : Int) := by omega
          have k1 : (k : Int) < (n : Int) := by omega
          cases hc : anc zs k j
          · have HC := Lib.hid hc
            have kp : 0 < k := by
              rcases Nat.eq_zero_or_pos k with h0 | h0
              · subst h0; rw [HU.out.root_anc hj] at hc; cases hc
              · exact h0
            obtain ⟨p, e, hp, _⟩ := HU.out.up k kp hk
            have E2 := Lib.hid ((com_step hc e hp).symm.trans HE.out)
            obtain ⟨b', off, rfl, hb, hcl⟩ := (HX.out.new N1.out).at_ (by omega)
            have g0 := par_cell hcl hk
            rw [e] at g0
            have p0 : (0 : Int) ≤ (p : Int) := by omega
            clear hc hcl e
            go_wp2_with (go_at_call 42; refine AT.out.mono ?_; rw [HC.out]; rintro e w' ⟨rfl, rfl⟩)
            go_roundw
            case rel => exact ⟨trivial, p, by omega, rfl, E2⟩
            case measure => simp [intOf]; omega
          · have HC := Lib.hid hc
            have E2 := Lib.hid ((com_end hc).symm.trans HE.out)
            clear hc
            go_wp2_with (go_at_call 42; refine AT.out.mono ?_; rw [HC.out]; rintro e w' ⟨rfl, rfl⟩)
            go_ret
            exact ⟨by rw [E1.out, ← E2.out]; rfl, N1.out⟩
end Go.Proofs.Ytohjfddmnhnfjaa
