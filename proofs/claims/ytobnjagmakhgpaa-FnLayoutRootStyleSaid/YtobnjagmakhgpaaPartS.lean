/- PartOf of the reference, walked. Condition: the tree can be read. -/
import Derived.Test.YtobnjagmakhgpaaPartI
import Derived.Test.YtobnjagmakhgpaaZF
namespace Go.Proofs.Ytobnjagmakhgpaa
open Go.RowKit

theorem OwnBox.some_ {lo n : Nat} {w : World} {v : Value} {zs : List Int} (h : OwnBox lo w v n zs) (hp : 0 < n) : ∃ g c, v = .slice (some ⟨g, 0, none⟩) n c ∧ lo ≤ g ∧ Row w g zs ∧ n ≤ c ∧ zs.length = n * 9 := by
  rcases h.form with ⟨_, h0, _⟩ | ⟨g, c, rfl, hg, hR, hc, _⟩
  · omega
  · exact ⟨g, c, rfl, hg, hR, hc, h.2⟩
/-- The checks ahead of an edit: there is no such box. -/
theorem noBox_cases {n : Nat} {zs : List Int} {at_ : Int} (h : nodeOk n zs at_ = false) : vtB n zs = false ∨ (vtB n zs = true ∧ decide (0 ≤ at_ ∧ at_ ≤ (n : Int) - 1) = false) := by
  unfold nodeOk at h
  cases hv : vtB n zs
  · exact .inl rfl
  · rw [hv, Bool.true_and] at h; exact .inr ⟨rfl, h⟩
set_option maxHeartbeats 2000000 in
theorem SPartOf_ansT (A : Option Addr) (n c : Nat) (zs : List Int) (at_ : Int) (hn : n ≤ 1048576) (hnc : n ≤ c) (w : World) (hx : Sts 9 w A n zs) :
    Calls Try.prog 19 #[.slice A n c, .int .i64 at_] w (AnsT 9 w (partOk n zs at_) (partA n zs at_)) := by
  have HX := Lib.hid hx; have HL := Lib.hid hx.len
  have CT := Lib.hid (svalidTree_any A n c zs hn w hx)
  have n0 : (0 : Int) ≤ (n : Int) := by omega
  have n1 : (n : Int) ≤ 1048576 := by omega
  cases hok : nodeOk n zs at_
  · have E1 : Hid (partOk n zs at_ = false) := Lib.hid hok
    have E2 : Hid (partA n zs at_ = []) := Lib.hid (by unfold partA; rw [hok]; rfl)
    rcases noBox_cases hok with hv | ⟨hv, hd⟩
    · have HV := Lib.hid hv
      clear hok hx hv
      go_enter Try.func19, Try.ntmps19
      go_wp2_with (go_at_call 41; refine CT.out.mono ?_; rw [HV.out]; rintro e w1 ⟨rfl, h1⟩; (have N1 := Lib.hid h1); clear h1)
      refine bodyPost_ret (v := .tuple #[.slice none 0 0, .bool false]) (by simp [results, Try.results19, go_sem]) rfl ?_
      rw [E1.out, E2.out]
      exact AnsT.no rfl N1.out
    · have HV := Lib.hid hv
      clear hok hx hv
      go_enter Try.func19, Try.ntmps19
      go_wp2_with (first
        | (go_at_call 41; refine CT.out.mono ?_; rw [HV.out]; rintro e w1 ⟨rfl, h1⟩; (have N1 := Lib.hid h1); clear h1)
        | (go_at_call 42; refine (inRange_any _ _ _ _).mono ?_; rw [hd]; rintro e w' ⟨rfl, rfl⟩))
      refine bodyPost_ret (v := .tuple #[.slice none 0 0, .bool false]) (by simp [results, Try.results19, go_sem]) rfl ?_
      rw [E1.out, E2.out]
      exact AnsT.no rfl N1.out
  · obtain ⟨hv, a, rfl, ha⟩ := nodeOk_iff.1 hok
    have hn16 := (vtB_iff.1 hv).1
    have hd : decide (0 ≤ (a : Int) ∧ (a : Int) ≤ (n : Int) - 1) = true := decide_eq_true (by omega)
    have E1 : Hid (partOk n zs (a : Int) = true) := Lib.hid hok
    have E2 : Hid (partA n zs (a : Int) = partL zs a (en zs n a - a)) := Lib.hid (by unfold partA; rw [if_pos hok, Int.toNat_natCast])
    have HV := Lib.hid hv
    have SC := Lib.hid (fun W (h : New w W) => scount_any A n c a zs hn ha (link_vt hv).ups W (hx.new h))
    have eb := en_bd (zs := zs) ha
    obtain ⟨m, hm⟩ : ∃ m, en zs n a - a = m := ⟨_, rfl⟩
    have hem : (en zs n a : Int) - (a : Int) = (m : Int) := by omega
    rw [hm] at E2
    rw [hem] at SC
    have PL := Lib.hid (fun k (hkm : k < m) => par_lim hv (show a + k < n by omega))
    obtain ⟨b, off, rfl, hb, hc⟩ := hx.at_ (by omega)
    have am : a + m ≤ n := by omega
    have m1 : 1 ≤ m := by omega
    clear hok hx hv hc hb hem hm eb
    have i0 : (0 : Int) ≤ (a : Int) := by omega
    have i1 : (a : Int) + (m : Int) ≤ (c : Int) := by omega
    have i2 : (a : Int) ≤ (a : Int) + (m : Int) := by omega
    have i3 : (0 : Int) ≤ (a : Int) + (m : Int) := by omega
    have i4 : (a : Int) ≤ 16 := by omega
    have i5 : (m : Int) ≤ 16 := by omega
    have i6 : (0 : Int) < (m : Int) := by omega
    have s1 : ((a : Int) + (m : Int) - (a : Int)).toNat = m := by omega
    have s2 : ((c : Int) - (a : Int)).toNat = c - a := by omega
    have s3 : (a : Int) + (m : Int) - (a : Int) = (m : Int) := by omega
    have s4 : ((a : Int) + (m : Int)).toNat = a + m := by omega
    go_enter Try.func19, Try.ntmps19
    go_wp2_with fail
    refine CT.out.mono ?_
    rw [HV.out]
    rintro e w1 ⟨rfl, h1⟩
    have N1 := Lib.hid h1
    have SC1 := Lib.hid (SC.out (w1.alloc (.cells #[] 30)) (h1.alloc _))
    have S1 := Lib.hid ((HX.out.new (h1.alloc (.cells #[] 30))).mid am)
    have LMM := Lib.hid (midL_len (a := a) (m := m) HL.out am)
    clear h1 SC CT
    go_wp2_with (first
      | (go_at_call 42; refine (inRange_any _ _ _ _).mono ?_; rw [hd]; rintro e w' ⟨rfl, rfl⟩)
      | (go_at_call 55; refine SC1.out.mono ?_; rintro e w' ⟨rfl, rfl⟩)
      | (at_builtin; refine wp_appBoxN rfl _ _ rfl w1.heap.size _ 0 [] rfl (OwnBox.empty w1 (Nat.le_refl _)) (some ⟨b, off + a * 9, none⟩) m (c - a) (midL zs a m) rfl S1.out (by omega) (by simp) ?_; intro v2 w2 O2 G2; (have N2 := Lib.hid (new_ownBox (New.alloc (New.refl w1) _) G2 (OwnBox.empty w1 (Nat.le_refl _)) (Nat.le_refl _))); (rw [List.nil_append, Nat.zero_add] at O2); (obtain ⟨g, cg, rfl, hg, R2, hcg, LM⟩ := O2.some_ m1); clear G2 O2; (replace R2 := Lib.hid R2)))
    have NW := Lib.hid (N1.out.trans N2.out)
    have hgw : w.heap.size ≤ g := Nat.le_trans N1.out.le hg
    clear N1 N2 S1 SC1
    go_loopw [7] (fun i wr => ∃ (k : Nat) (l : List Int), k ≤ m ∧ i = .int .i64 (k : Int) ∧ Hid (MvPar (fun p => p - (a : Int)) (midL zs a m) k l) ∧ Hid (Row wr g l) ∧ Hid (w2.grownBy wr (some g))) (fun i _ => m - (intOf i).toNat)
    case atStart => exact ⟨0, midL zs a m, Nat.zero_le _, rfl, Lib.hid (MvPar.zero _ _), R2, Lib.hid (World.grownBy.refl _ _)⟩
    case round =>
      obtain ⟨k, l, hk, rfl, HM, HW, HG⟩ := hrel
      have k0 : (0 : Int) ≤ (k : Int) := by omega
      by_cases hlt : k < m
      · have k1 : (k : Int) < (m : Int) := by omega
        have hkz : k * 9 < (midL zs a m).length := by rw [LMM.out]; omega
        have c0 := HW.out.c (k * 9) (by rw [HM.out.len]; exact hkz)
        have f0 := HW.out.f (k * 9) (by rw [HM.out.len]; exact hkz)
        rw [HM.out.here hkz] at c0
        have pb := PL.out k hlt
        obtain ⟨p, hpe⟩ : ∃ p, (midL zs a m).getD (k * 9) 0 = p := ⟨_, rfl⟩
        have pb2 : -1 ≤ p ∧ p ≤ 15 := by
          rw [← hpe, show (midL zs a m).getD (k * 9) 0 = par zs (a + k) from midL_par (zs := zs) (a := a) (m := m) hlt]
          exact pb
        rw [hpe] at c0
        have M2 := Lib.hid (HM.out.step (p - (a : Int)) (by rw [hpe]))
        have R3 := Lib.hid (HW.out.set_ (k := k * 9) (by rw [HM.out.len]; exact hkz) (p - (a : Int)))
        have G2 := Lib.hid (own_set HG.out (.int .i64 (p - (a : Int))) (k := k * 9))
        have b0 : -100 ≤ p - (a : Int) := by omega
        have b1 : p - (a : Int) ≤ 100 := by omega
        clear pb pb2 hpe hkz
        go_wp2
        go_roundw
        case rel => exact ⟨k + 1, _, by omega, by go_num, M2, R3, G2⟩
        case measure => simp [intOf]; omega
      · obtain rfl : k = m := by omega
        have HE := HM.out.all LMM.out
        subst HE
        have c0 := HW.out.c 0 (by rw [parF_len, LMM.out]; omega); have f0 := HW.out.f 0 (by rw [parF_len, LMM.out]; omega)
        generalize (parF (fun p => p - (a : Int)) (midL zs a k)).getD 0 0 = old at c0
        have R4 := Lib.hid (HW.out.set_ (k := 0) (by rw [parF_len, LMM.out]; omega) (-1))
        have N4 := Lib.hid (new_only NW.out hgw (own_set HG.out (.int .i64 (-1)) (k := 0)))
        go_wp2
        refine bodyPost_ret (v := .tuple #[.slice (some ⟨g, 0, none⟩) k cg, .bool true]) (by simp [results, Try.results19, go_sem]) rfl ?_
        rw [E1.out, E2.out]
        exact ⟨_, k, cg, rfl, partL_len HL.out am, Res.of_row R4.out hgw, N4.out⟩
end Go.Proofs.Ytobnjagmakhgpaa
