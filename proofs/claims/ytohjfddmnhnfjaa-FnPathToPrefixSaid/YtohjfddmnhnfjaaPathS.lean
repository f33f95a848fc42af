/- PathTo, CommonBox and NextLeaf of the reference, and CommonBox and NextLeaf of the program, walked. Condition: the tree can be read. -/
import Derived.Test.YtohjfddmnhnfjaaPathI
namespace Go.Proofs.Ytohjfddmnhnfjaa
open Go.RowKit

theorem Own.one {lo : Nat} (w : World) (z : Int) (hl : lo ≤ w.heap.size) : Own lo (w.alloc (.cells #[.int .i64 z] 3)) (.slice (some ⟨w.heap.size, 0, none⟩) 1 1) [z] :=
  ⟨rfl, .inr ⟨w.heap.size, 1, #[.int .i64 z], rfl, hl, heap_alloc_new w _, Nat.le_refl _, by unfold maxLen; omega, rfl, rfl⟩⟩
theorem Own.mono {lo lo' : Nat} {w : World} {v : Value} {zs : List Int} (h : Own lo w v zs) (hl : lo' ≤ lo) : Own lo' w v zs := by
  refine ⟨h.1, ?_⟩
  rcases h.2 with hn | ⟨g, cap, cur, hv, hg, hh, hc, hm, hs, ht⟩
  · exact .inl hn
  · exact .inr ⟨g, cap, cur, hv, Nat.le_trans hl hg, hh, hc, hm, hs, ht⟩
set_option maxHeartbeats 1600000 in
theorem SPathTo_ans (A : Option Addr) (n c : Nat) (zs : List Int) (at_ : Int) (hn : n ≤ 1048576) (w : World) (hx : Sts 9 w A n zs) :
    Calls Try.prog 16 #[.slice A n c, .int .i64 at_] w (Ans w (pathA n zs at_)) := by
  have HX := Lib.hid hx
  have CT := Lib.hid (svalidTree_any A n c zs hn w hx)
  have n0 : (0 : Int) ≤ (n : Int) := by omega
  have n1 : (n : Int) ≤ 1048576 := by omega
  clear hx
  cases hv : vtB n zs
  · have E1 := Lib.hid (show pathA n zs at_ = [] from pathA_no (by unfold nodeOk; rw [hv]; rfl))
    have HV := Lib.hid hv
    clear hv
    go_enter Try.func16, Try.ntmps16
    go_wp2_with (go_at_call 36; refine CT.out.mono ?_; rw [HV.out]; rintro e w1 ⟨rfl, h1⟩; (have N1 := Lib.hid h1); clear h1)
    go_ret
    rw [E1.out]
    exact Ans.none_ rfl N1.out
  · have HV := Lib.hid hv
    cases hd : decide (0 ≤ at_ ∧ at_ ≤ (n : Int) - 1)
    · have E1 := Lib.hid (show pathA n zs at_ = [] from pathA_no (by unfold nodeOk; rw [hv, hd]; rfl))
      clear hv
      go_enter Try.func16, Try.ntmps16
      go_wp2_with (first
        | (go_at_call 36; refine CT.out.mono ?_; rw [HV.out]; rintro e w1 ⟨rfl, h1⟩; (have N1 := Lib.hid h1); clear h1)
        | (go_at_call 37; refine (inRange_any _ _ _ _).mono ?_; rw [hd]; rintro e w' ⟨rfl, rfl⟩))
      go_ret
      rw [E1.out]
      exact Ans.none_ rfl N1.out
    · have hok : nodeOk n zs at_ = true := by unfold nodeOk; rw [hv, hd]; rfl
      obtain ⟨_, i, rfl, hi⟩ := nodeOk_iff.1 hok
      have hn16 := (vtB_iff.1 hv).1
      have HU := Lib.hid (link_vt hv)
      have E1 := Lib.hid (pathA_at hv hi)
      have PL := Lib.hid (path_le (zs := zs) hi hn16.2)
      clear hv hok
      go_enter Try.func16, Try.ntmps16
      go_wp2_with fail
      refine CT.out.mono ?_
      rw [HV.out]
      rintro e w1 ⟨rfl, h1⟩
      have N1 := Lib.hid h1
      clear h1
      go_wp2_with fail
      refine (inRange_any _ _ _ _).mono ?_
      rw [hd]
      rintro e w' ⟨rfl, rfl⟩
      go_wp2
      go_loopw [1, 5] (fun x v wr => ∃ (j : Nat) (acc : List Nat), j < n ∧ x = .int .i64 (j : Int) ∧ Hid (pathL zs j ++ acc = pathL zs i) ∧ Hid (Own w1.heap.size wr v ((j :: acc).map Int.ofNat)) ∧ Hid (New w1 wr)) (fun x _ _ => (intOf x).toNat)
      case atStart => exact ⟨i, [], hi, rfl, Lib.hid (by simp), Lib.hid (Own.one w1 (i : Int) (Nat.le_refl _)), Lib.hid (by (repeat (first | exact New.refl _ | assumption | refine New.alloc ?_ _ | refine New.drew ?_ | refine New.drewN ?_ _ | refine New.setCell ?_ (by first | omega | (simp; omega) | (simp; done)) _ | refine New.trans ?_ (by assumption))))⟩
      case round =>
        obtain ⟨j, acc, hj, rfl, HP, HO, HN⟩ := hrel
        have j0 : (0 : Int) ≤ (j : Int) := by omega
        have j1 : (j : Int) < (n : Int) := by omega
        rcases Nat.eq_zero_or_pos j with h0 | h0
        · subst h0
          have ep : 0 :: acc = pathL zs i := by
            have h1 := HP.out
            rw [path_top (by have := HU.out.root (by omega); omega)] at h1
            exact h1
          have HO2 := HO.out
          rw [ep] at HO2
          replace HO2 := Lib.hid HO2
          clear HO HP ep
          obtain ⟨v, hv⟩ : ∃ v, v = u5 := ⟨_, rfl⟩
          rw [← hv] at HO2 ⊢
          clear hv
          go_wp2
          go_ret
          rw [E1.out]
          exact Ans.own rfl (HO2.out.mono N1.out.le) (N1.out.trans HN.out)
        · obtain ⟨p, e, hp, _⟩ := HU.out.up j h0 hj
          have PS := Lib.hid (show pathL zs p ++ (j :: acc) = pathL zs i by
            have h1 := HP.out
            rw [path_par e hp, List.append_assoc] at h1
            exact h1)
          have LD : Hid (acc.length ≤ 16) := Lib.hid (by have h1 := PL.out; rw [← HP.out, List.length_append] at h1; omega)
          obtain ⟨b, off, rfl, hb, hc⟩ := (HX.out.new (N1.out.trans HN.out)).at_ (by omega)
          have g0 := par_cell hc hj
          rw [e] at g0
          have sz := HN.out.le
          have p0 : (0 : Int) ≤ (p : Int) := by omega
          obtain ⟨A5, c5, rfl, hc5, Z5⟩ := HO.out.res
          have I5 := Lib.hid (Z5.ints rfl)
          have lz : ((j :: acc).map Int.ofNat).length ≤ 17 := by rw [List.length_map, List.length_cons]; have := LD.out; omega
          have LZ := Lib.hid lz
          have h0i : (0 : Int) < (j : Int) := by omega
          clear hc e HO Z5 lz
          generalize hl5 : ((j :: acc).map Int.ofNat).length = n5 at *
          have HL5 := Lib.hid hl5
          clear hl5
          go_wp2_with (at_builtin; refine wp_app rfl _ _ rfl w1.heap.size _ [(p : Int)] rfl (Own.one wr (p : Int) sz) A5 n5 c5 _ rfl (I5.out.new (by (repeat (first | exact New.refl _ | assumption | refine New.alloc ?_ _ | refine New.drew ?_ | refine New.drewN ?_ _ | refine New.setCell ?_ (by first | omega | (simp; omega) | (simp; done)) _ | refine New.trans ?_ (by assumption))))) (by have := LZ.out; simp; omega) (by simp; omega) ?_; intro v6 w6 O6 G6; (have N6 := Lib.hid (new_own (HN.out.alloc _) G6 (Own.one wr (p : Int) sz) (Nat.le_refl _))); (have O6 := Lib.hid O6); clear G6)
          go_roundw
          case rel => exact ⟨p, j :: acc, by omega, rfl, PS, Lib.hid (by simpa using O6.out), N6⟩
          case measure => simp [intOf]; omega
set_option maxHeartbeats 1600000 in
theorem NextLeaf_any (A : Option Addr) (n c : Nat) (zs : List Int) (at_ : Int) (hn : n ≤ 1048576) (w : World) (hx : Sts 9 w A n zs) :
    Calls Try.prog 27 #[.slice A n c, .int .i64 at_] w fun e w' => e = .returned (.int .i64 (nlA n zs at_)) ∧ New w w' := by
  cases hok : nodeOk n zs at_
  · have E1 := Lib.hid (show nlA n zs at_ = -1 by unfold nlA; rw [hok]; rfl)
    have CT := Lib.hid (nodeAt_no A n c zs at_ hn hok w hx)
    clear hok hx
    go_enter Try.func27, Try.ntmps27
    go_wp2_with (go_at_call 39; refine CT.out.mono ?_; rintro e w1 ⟨rfl, h1⟩; (have N1 := Lib.hid h1); clear h1)
    go_ret
    exact ⟨by rw [E1.out]; rfl, N1.out⟩
  · obtain ⟨hv, i, rfl, hi⟩ := nodeOk_iff.1 hok
    have hn16 := (vtB_iff.1 hv).1
    have E1 := Lib.hid (show nlA n zs (i : Int) = nlf zs n i 0 by unfold nlA; rw [if_pos hok, Int.toNat_natCast])
    have CT := Lib.hid (nodeAt_yes A n c i zs hv hi w hx)
    have HX := Lib.hid hx
    have i0 : (0 : Int) ≤ (i : Int) := by omega
    have i1 : (i : Int) < (n : Int) := by omega
    have n16 : (n : Int) ≤ 16 := by omega
    clear hok hx hv
    go_enter Try.func27, Try.ntmps27
    go_wp2_with fail
    refine CT.out.mono ?_
    rintro e w1 ⟨h1, nb, ar, fi, la, ne, rfl, h2⟩
    have N1 := Lib.hid h1
    clear h1 h2
    go_wp2
    go_loopw [13] (fun x wr => wr = w1 ∧ ∃ t : Nat, t ≤ n ∧ x = .int .i64 (t : Int) ∧ Hid (nlf zs n i t = nlf zs n i 0)) (fun x _ => n - (intOf x).toNat)
    case atStart => exact ⟨rfl, 0, Nat.zero_le _, rfl, Lib.hid rfl⟩
    case round =>
      obtain ⟨rfl, t, ht, rfl, HE⟩ := hrel
      have t0 : (0 : Int) ≤ (t : Int) := by omega
      by_cases hlt : t < n
      · have t1 : (t : Int) < (n : Int) := by omega
        obtain ⟨b, off, rfl, hb, hc⟩ := (HX.out.new N1.out).at_ (by omega)
        have hq : ((i : Int) + 1 + (t : Int)) % (n : Int) = (((i + 1 + t) % n : Nat) : Int) := by
          rw [show ((i : Int) + 1 + (t : Int)) = ((i + 1 + t : Nat) : Int) by omega, Int.natCast_emod]
        have ql : (i + 1 + t) % n < n := Nat.mod_lt _ (by omega)
        have g0 := hc ((i + 1 + t) % n * 9 + 1) (by omega)
        rw [← Nat.add_assoc] at g0
        have EH := Lib.hid (fun hk => nlf_hit (zs := zs) (i := i) hlt hk)
        have EG := Lib.hid (fun hk => nlf_go (zs := zs) (i := i) hlt hk)
        unfold knd at EH EG
        generalize hqq : (i + 1 + t) % n = q at *
        clear hqq
        have q0 : (0 : Int) ≤ (q : Int) := by omega
        have q1 : (q : Int) < (n : Int) := by omega
        clear hc
        by_cases hk : zs.getD (q * 9 + 1) 0 = 0
        · have E2 := Lib.hid ((EH.out hk).symm.trans HE.out)
          rw [hk] at g0
          clear hk EH EG
          go_wp2
          go_ret
          exact ⟨by rw [E1.out, ← E2.out, ← hq]; rfl, N1.out⟩
        · have E2 := Lib.hid ((EG.out hk).symm.trans HE.out)
          have kb : (zs.getD (q * 9 + 1) 0 == 0) = false := by simpa using hk
          generalize zs.getD (q * 9 + 1) 0 = kz at g0 kb
          clear hk EH EG
          go_wp2
          go_roundw
          case rel => exact ⟨trivial, t + 1, by omega, by go_num, E2⟩
          case measure => simp [intOf]; omega
      · obtain rfl : t = n := by omega
        have E2 := Lib.hid (HE.out.symm.trans (nlf_end (Nat.le_refl _)))
        go_wp2
        go_ret
        exact ⟨by rw [E1.out, E2.out]; rfl, N1.out⟩
set_option maxHeartbeats 1600000 in
theorem SNextLeaf_any (A : Option Addr) (n c : Nat) (zs : List Int) (at_ : Int) (hn : n ≤ 1048576) (w : World) (hx : Sts 9 w A n zs) :
    Calls Try.prog 26 #[.slice A n c, .int .i64 at_] w fun e w' => e = .returned (.int .i64 (nlA n zs at_)) ∧ New w w' := by
  have HX := Lib.hid hx
  have CT := Lib.hid (svalidTree_any A n c zs hn w hx)
  have n0 : (0 : Int) ≤ (n : Int) := by omega
  have n1 : (n : Int) ≤ 1048576 := by omega
  clear hx
  cases hv : vtB n zs
  · have E1 := Lib.hid (show nlA n zs at_ = -1 by unfold nlA nodeOk; rw [hv]; rfl)
    have HV := Lib.hid hv
    clear hv
    go_enter Try.func26, Try.ntmps26
    go_wp2_with (go_at_call 36; refine CT.out.mono ?_; rw [HV.out]; rintro e w1 ⟨rfl, h1⟩; (have N1 := Lib.hid h1); clear h1)
    go_ret
    exact ⟨by rw [E1.out]; rfl, N1.out⟩
  · have HV := Lib.hid hv
    cases hd : decide (0 ≤ at_ ∧ at_ ≤ (n : Int) - 1)
    · have E1 := Lib.hid (show nlA n zs at_ = -1 by unfold nlA nodeOk; rw [hv, hd]; rfl)
      clear hv
      go_enter Try.func26, Try.ntmps26
      go_wp2_with (first
        | (go_at_call 36; refine CT.out.mono ?_; rw [HV.out]; rintro e w1 ⟨rfl, h1⟩; (have N1 := Lib.hid h1); clear h1)
        | (go_at_call 37; refine (inRange_any _ _ _ _).mono ?_; rw [hd]; rintro e w' ⟨rfl, rfl⟩))
      go_ret
      exact ⟨by rw [E1.out]; rfl, N1.out⟩
    · have hok : nodeOk n zs at_ = true := by unfold nodeOk; rw [hv, hd]; rfl
      obtain ⟨_, i, rfl, hi⟩ := nodeOk_iff.1 hok
      have hn16 := (vtB_iff.1 hv).1
      have E1 := Lib.hid (show nlA n zs (i : Int) = nlf zs n i 0 by unfold nlA; rw [if_pos hok, Int.toNat_natCast])
      have i0 : (0 : Int) ≤ (i : Int) := by omega
      have i1 : (i : Int) < (n : Int) := by omega
      have n16 : (n : Int) ≤ 16 := by omega
      clear hv hok
      go_enter Try.func26, Try.ntmps26
      go_wp2_with fail
      refine CT.out.mono ?_
      rw [HV.out]
      rintro e w1 ⟨rfl, h1⟩
      have N1 := Lib.hid h1
      clear h1
      go_wp2_with fail
      refine (inRange_any _ _ _ _).mono ?_
      rw [hd]
      rintro e w' ⟨rfl, rfl⟩
      go_wp2
      go_loopw [5] (fun x wr => wr = w1 ∧ ∃ t : Nat, t ≤ n ∧ x = .int .i64 ((t : Int) + 1) ∧ Hid (nlf zs n i t = nlf zs n i 0)) (fun x _ => n + 1 - (intOf x).toNat)
      case atStart => exact ⟨rfl, 0, Nat.zero_le _, rfl, Lib.hid rfl⟩
      case round =>
        obtain ⟨rfl, t, ht, rfl, HE⟩ := hrel
        have t0 : (0 : Int) ≤ (t : Int) := by omega
        by_cases hlt : t < n
        · have t1 : (t : Int) + 1 ≤ (n : Int) := by omega
          obtain ⟨b, off, rfl, hb, hc⟩ := (HX.out.new N1.out).at_ (by omega)
          have hq : ((i : Int) + ((t : Int) + 1)) % (n : Int) = (((i + 1 + t) % n : Nat) : Int) := by
            rw [show ((i : Int) + ((t : Int) + 1)) = ((i + 1 + t : Nat) : Int) by omega, Int.natCast_emod]
          have ql : (i + 1 + t) % n < n := Nat.mod_lt _ (by omega)
          have g0 := hc ((i + 1 + t) % n * 9 + 1) (by omega)
          rw [← Nat.add_assoc] at g0
          have EH := Lib.hid (fun hk => nlf_hit (zs := zs) (i := i) hlt hk)
          have EG := Lib.hid (fun hk => nlf_go (zs := zs) (i := i) hlt hk)
          unfold knd at EH EG
          generalize hqq : (i + 1 + t) % n = q at *
          clear hqq
          have q0 : (0 : Int) ≤ (q : Int) := by omega
          have q1 : (q : Int) < (n : Int) := by omega
          clear hc
          by_cases hk : zs.getD (q * 9 + 1) 0 = 0
          · have E2 := Lib.hid ((EH.out hk).symm.trans HE.out)
            rw [hk] at g0
            clear hk EH EG
            go_wp2
            go_ret
            exact ⟨by rw [E1.out, ← E2.out, ← hq]; rfl, N1.out⟩
          · have E2 := Lib.hid ((EG.out hk).symm.trans HE.out)
            have kb : (zs.getD (q * 9 + 1) 0 == 0) = false := by simpa using hk
            generalize zs.getD (q * 9 + 1) 0 = kz at g0 kb
            clear hk EH EG
            go_wp2
            go_roundw
            case rel => exact ⟨trivial, t + 1, by omega, by go_num, E2⟩
            case measure => simp [intOf]; omega
        · obtain rfl : t = n := by omega
          have E2 := Lib.hid (HE.out.symm.trans (nlf_end (Nat.le_refl _)))
          go_wp2
          go_ret
          exact ⟨by rw [E1.out, E2.out]; rfl, N1.out⟩
end Go.Proofs.Ytohjfddmnhnfjaa
