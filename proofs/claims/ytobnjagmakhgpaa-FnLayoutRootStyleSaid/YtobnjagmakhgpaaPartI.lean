/- moveParents, the copy of a tree, and PartOf of the program, walked. Condition: the tree can be read. -/
import Derived.Test.YtobnjagmakhgpaaPartM
import Derived.Test.YtobnjagmakhgpaaZE
import Derived.Lib.SliceRun
namespace Go.Proofs.Ytobnjagmakhgpaa
open Go.RowKit

/-- The parents of the first k boxes, turned. -/
structure MvPar (f : Int → Int) (zs : List Int) (k : Nat) (l : List Int) : Prop where
  len : l.length = zs.length
  val : ∀ i, i < zs.length → l.getD i 0 = if i % 9 = 0 ∧ i < k * 9 then f (zs.getD i 0) else zs.getD i 0
theorem MvPar.all {f : Int → Int} {zs l : List Int} {n : Nat} (h : MvPar f zs n l) (hz : zs.length = n * 9) : l = parF f zs := by
  apply ext_get
  · rw [parF_len]; exact h.len
  · intro i hi
    rw [h.len] at hi
    rw [h.val i hi, parF_at hi]
    by_cases h9 : i % 9 = 0
    · rw [if_pos ⟨h9, by omega⟩, if_pos h9]
    · rw [if_neg (fun h => h9 h.1), if_neg h9]
theorem MvPar.here {f : Int → Int} {zs l : List Int} {k : Nat} (h : MvPar f zs k l) (hk : k * 9 < zs.length) : l.getD (k * 9) 0 = zs.getD (k * 9) 0 := by
  rw [h.val _ hk, if_neg (by omega)]
theorem MvPar.step {f : Int → Int} {zs l : List Int} {k : Nat} (h : MvPar f zs k l) (v : Int) (hv : v = f (zs.getD (k * 9) 0)) : MvPar f zs (k + 1) (l.set (k * 9) v) :=
  ⟨by rw [List.length_set]; exact h.len, fun i hi => by
    rw [getD_set _ _ _ _ (by rw [h.len]; exact hi)]
    by_cases e : k * 9 = i
    · subst e
      rw [if_pos rfl, if_pos ⟨by omega, by omega⟩, hv]
    · rw [if_neg e, h.val i hi]
      by_cases h9 : i % 9 = 0 ∧ i < k * 9
      · rw [if_pos h9, if_pos ⟨h9.1, by omega⟩]
      · rw [if_neg h9, if_neg (fun hh => h9 ⟨hh.1, by omega⟩)]⟩
theorem MvPar.stay {f : Int → Int} {zs l : List Int} {k : Nat} (h : MvPar f zs k l) (hv : f (zs.getD (k * 9) 0) = zs.getD (k * 9) 0) : MvPar f zs (k + 1) l :=
  ⟨h.len, fun i hi => by
    rw [h.val i hi]
    by_cases e : k * 9 = i
    · subst e
      rw [if_neg (by omega), if_pos ⟨by omega, by omega⟩, hv]
    · by_cases h9 : i % 9 = 0 ∧ i < k * 9
      · rw [if_pos h9, if_pos ⟨h9.1, by omega⟩]
      · rw [if_neg h9, if_neg (fun hh => h9 ⟨hh.1, by omega⟩)]⟩
theorem MvPar.zero (f : Int → Int) (zs : List Int) : MvPar f zs 0 zs := ⟨rfl, fun i _ => by rw [if_neg (by omega)]⟩
set_option maxHeartbeats 1000000 in
theorem moveParents_any (g n c : Nat) (zs : List Int) (from_ by_ : Int) (hz : zs.length = n * 9) (hn : n ≤ 1000) (hp : ∀ k, k < n → -1000 ≤ par zs k ∧ par zs k ≤ 1000) (hb : -1000 ≤ by_ ∧ by_ ≤ 1000) (w : World) (R : Row w g zs) :
    Calls Try.prog 54 #[.slice (some ⟨g, 0, none⟩) n c, .int .i64 from_, .int .i64 by_] w fun e w' => e = .returned (.tuple #[]) ∧ Row w' g (parF (mvp from_ by_) zs) ∧ w.grownBy w' (some g) := by
  have HR := Lib.hid R; have HZ := Lib.hid hz; have HP := Lib.hid hp
  have n1 : (n : Int) ≤ 1000 := by omega
  have lt := R.lt
  clear R hz hp
  go_enter Try.func54, Try.ntmps54
  go_wp2
  go_loopw [9] (fun i wr => ∃ (k : Nat) (l : List Int), k ≤ n ∧ i = .int .i64 (k : Int) ∧ Hid (MvPar (mvp from_ by_) zs k l) ∧ Hid (Row wr g l) ∧ Hid (w.grownBy wr (some g))) (fun i _ => n - (intOf i).toNat)
  case atStart => exact ⟨0, zs, Nat.zero_le _, rfl, Lib.hid (MvPar.zero _ _), HR, Lib.hid (World.grownBy.refl _ _)⟩
  case round =>
    obtain ⟨k, l, hk, rfl, HM, HW, HG⟩ := hrel
    have k0 : (0 : Int) ≤ (k : Int) := by omega
    by_cases hlt : k < n
    · have k1 : (k : Int) < (n : Int) := by omega
      have hkz : k * 9 < zs.length := by rw [HZ.out]; omega
      have c0 := HW.out.c (k * 9) (by rw [HM.out.len]; exact hkz)
      have f0 := HW.out.f (k * 9) (by rw [HM.out.len]; exact hkz)
      rw [HM.out.here hkz] at c0
      have pb := HP.out k hlt
      obtain ⟨p, hpe⟩ : ∃ p, zs.getD (k * 9) 0 = p := ⟨_, rfl⟩
      have pb2 : -1000 ≤ p ∧ p ≤ 1000 := by rw [← hpe]; exact pb
      rw [hpe] at c0
      by_cases hge : from_ ≤ p
      · have M2 := Lib.hid (HM.out.step (p + by_) (by rw [hpe]; unfold mvp; rw [if_pos hge]))
        have R2 := Lib.hid (HW.out.set_ (k := k * 9) (by rw [HM.out.len]; exact hkz) (p + by_))
        have G2 := Lib.hid (own_set HG.out (.int .i64 (p + by_)) (k := k * 9))
        have b0 : -2000 ≤ p + by_ := by omega
        have b1 : p + by_ ≤ 2000 := by omega
        clear pb pb2 hpe hkz
        go_wp2
        go_roundw
        case rel => exact ⟨k + 1, _, by omega, by go_num, M2, R2, G2⟩
        case measure => simp [intOf]; omega
      · have M2 := Lib.hid (HM.out.stay (by rw [hpe]; unfold mvp; rw [if_neg hge]))
        have hgb : decide (from_ ≤ p) = false := decide_eq_false hge
        clear pb pb2 hpe hkz
        go_wp2
        go_roundw
        case rel => exact ⟨k + 1, l, by omega, by go_num, M2, HW, HG⟩
        case measure => simp [intOf]; omega
    · obtain rfl : k = n := by omega
      have HE := HM.out.all HZ.out
      subst HE
      go_wp2
      go_end0
      exact ⟨rfl, HW.out, HG.out⟩
set_option maxHeartbeats 1000000 in
theorem CloneB_any (ad : Addr) (n c : Nat) (xs : List Int) (hn : n ≤ 1000) (w : World) (hx : Sts 9 w (some ad) n xs) :
    Calls Try.prog 52 #[.slice (some ad) n c] w fun e w' => ∃ v, e = .returned v ∧ OwnBox w.heap.size w' v n xs ∧ New w w' := by
  have qT : ∀ (w : World) (a : Option Addr) (n c n' c' : Nat), (binOp .eql 23 (.slice a n c) (.slice none n' c')).run Try.prog w = .ok (.bool a.isNone) w := fun w a n c n' c' => Lib.run_eql_slice_nil w _ _ a n c n' c' Try.underlying23
  have HX := Lib.hid hx
  clear hx
  go_enter Try.func52, Try.ntmps52
  go_wp2_with (at_builtin; refine wp_appBoxN rfl _ _ rfl w.heap.size _ 0 [] rfl (OwnBox.empty w (Nat.le_refl _)) (some ad) n c xs rfl (HX.out.new ((New.refl _).alloc _)) (by omega) (by simp) ?_; intro v' w' ho hg)
  have hN := new_ownBox (New.alloc (New.refl _) _) hg (OwnBox.empty w (Nat.le_refl _)) (Nat.le_refl _)
  rw [List.nil_append, Nat.zero_add] at ho
  have HO := Lib.hid ho; have hN := Lib.hid hN
  clear hg ho
  go_wp2
  go_ret
  exact ⟨_, rfl, HO.out, hN.out⟩
/-- An answer that is a row of structs of its own, in its room, and a truth value. -/
def AnsR (m : Nat) (w : World) (ok : Bool) (zs : List Int) (e : Ending) (w' : World) : Prop :=
  ∃ (A : Option Addr) (n c : Nat), e = .returned (.tuple #[.slice A n c, .bool ok]) ∧ zs.length = n * m ∧ n ≤ c ∧ Res w.heap.size w'.heap.size w' A zs ∧ New w w'
set_option maxHeartbeats 2000000 in
theorem PartOf_ansR (A : Option Addr) (n c : Nat) (zs : List Int) (at_ : Int) (hn : n ≤ 1048576) (hnc : n ≤ c) (w : World) (hx : Sts 9 w A n zs) :
    Calls Try.prog 18 #[.slice A n c, .int .i64 at_] w (AnsR 9 w (partOk n zs at_) (partA n zs at_)) := by
  have HX := Lib.hid hx; have HL := Lib.hid hx.len
  cases hok : nodeOk n zs at_
  · have E1 : Hid (partOk n zs at_ = false) := Lib.hid hok
    have E2 : Hid (partA n zs at_ = []) := Lib.hid (by unfold partA; rw [hok]; rfl)
    have CT := Lib.hid (nodeAt_no A n c zs at_ hn hok w hx)
    clear hok hx
    go_enter Try.func18, Try.ntmps18
    go_wp2_with (go_at_call 44; refine CT.out.mono ?_; rintro e w1 ⟨rfl, h1⟩; (have N1 := Lib.hid h1); clear h1)
    refine bodyPost_ret (v := .tuple #[.slice none 0 0, .bool false]) (by simp [results, Try.results18, go_sem]) rfl ?_
    rw [E1.out, E2.out]
    exact ⟨none, 0, 0, rfl, by simp, Nat.le_refl _, Res.nil _ _ _, N1.out⟩
  · obtain ⟨hv, a, rfl, ha⟩ := nodeOk_iff.1 hok
    have hn16 := (vtB_iff.1 hv).1
    have E1 : Hid (partOk n zs (a : Int) = true) := Lib.hid hok
    have E2 : Hid (partA n zs (a : Int) = partL zs a (en zs n a - a)) := Lib.hid (by unfold partA; rw [if_pos hok, Int.toNat_natCast])
    have HV := Lib.hid hv
    have CT := Lib.hid (nodeAt_yes A n c a zs hv ha w hx)
    have PS := Lib.hid (part_same hv hx.len ha)
    have eb := en_bd (zs := zs) ha
    obtain ⟨m, hm⟩ : ∃ m, en zs n a - a = m := ⟨_, rfl⟩
    have hem : (en zs n a : Int) - (a : Int) = (m : Int) := by omega
    rw [hm] at PS E2
    have IP := Lib.hid (fun k (hk : 0 < k) (hkm : k < m) => in_par hv ha (show a + k < en zs n a by omega) (show a < a + k by omega))
    obtain ⟨b, off, rfl, hb, hc⟩ := hx.at_ (by omega)
    have am : a + m ≤ n := by omega
    have m1 : 1 ≤ m := by omega
    have HEM := Lib.hid hem
    clear hok hx hv hc hb hem hm
    have i0 : (0 : Int) ≤ (a : Int) := by omega
    have i1 : (a : Int) + (m : Int) ≤ (c : Int) := by omega
    have i2 : (a : Int) ≤ (a : Int) + (m : Int) := by omega
    have i3 : (0 : Int) ≤ (a : Int) + (m : Int) := by omega
    have i4 : (a : Int) ≤ 16 := by omega
    have i5 : (m : Int) ≤ 16 := by omega
    have i6 : (0 : Int) < (m : Int) := by omega
    have wn : IntKind.i64.wrap (-(a : Int)) = -(a : Int) := IntWalk.i64_in _ (by omega)
    have s1 : ((a : Int) + (m : Int) - (a : Int)).toNat = m := by omega
    have s2 : ((c : Int) - (a : Int)).toNat = c - a := by omega
    have s3 : (a : Int) + (m : Int) - (a : Int) = (m : Int) := by omega
    have s4 : ((a : Int) + (m : Int)).toNat = a + m := by omega
    go_enter Try.func18, Try.ntmps18
    go_wp2_with fail
    refine CT.out.mono ?_
    rintro e w1 ⟨h1, nb, ar, fi, la, ne, rfl, h2⟩
    have N1 := Lib.hid h1
    have CC := Lib.hid (count_any w.heap.size nb zs n ar fi la ne (n - a) a rfl ha w1 h2)
    rw [HEM.out] at CC
    have S1 := Lib.hid ((HX.out.new h1).mid am)
    clear h1 h2 CT
    go_wp2_with (go_at_call 53; refine CC.out.mono ?_; rintro e w' ⟨rfl, rfl⟩)
    refine (CloneB_any _ m (c - a) (midL zs a m) (by omega) w1 S1.out).mono ?_
    rintro e w2 ⟨v, rfl, O2, N2⟩
    rcases O2.form with ⟨_, h0, _⟩ | ⟨g, cg, rfl, hg, R2, hcg, _⟩
    · omega
    have LM := O2.2
    have c0 := R2.c 0 (by rw [LM]; omega); have f0 := R2.f 0 (by rw [LM]; omega)
    generalize (midL zs a m).getD 0 0 = old at c0
    have R3 := R2.set_ (k := 0) (by rw [LM]; omega) (-1)
    have L3 : ((midL zs a m).set 0 (-1)).length = m * 9 := by rw [List.length_set]; exact LM
    have N3 := Lib.hid ((N1.out.trans N2).setCell (p := ⟨g, 0, none⟩) (Nat.le_trans N1.out.le hg) (.int .i64 (-1)))
    have CM := Lib.hid (moveParents_any g m cg _ (a : Int) (-(a : Int)) L3 (by omega) (fun k hk => by
      unfold par
      rw [getD_set _ _ _ _ (by rw [LM]; omega)]
      by_cases e0 : 0 = k * 9
      · rw [if_pos e0]; omega
      · rw [if_neg e0]
        obtain ⟨p, e, hp, hq⟩ := IP.out k (by omega) hk
        have e1 : (midL zs a m).getD (k * 9) 0 = par zs (a + k) := midL_par (zs := zs) (a := a) (m := m) hk
        rw [e1, e]; omega) (by omega) _ R3)
    have hgw : w.heap.size ≤ g := Nat.le_trans N1.out.le hg
    clear O2 R2 R3 L3 N2 LM hg
    go_wp2_with fail
    refine CM.out.mono ?_
    rw [PS.out]
    rintro e w3 ⟨rfl, R4, G4⟩
    have N4 := Lib.hid (new_only N3.out hgw G4)
    have R4 := Lib.hid R4
    clear G4
    go_wp2
    refine bodyPost_ret (v := .tuple #[.slice (some ⟨g, 0, none⟩) m cg, .bool true]) (by simp [results, Try.results18, go_sem]) rfl ?_
    rw [E1.out, E2.out]
    exact ⟨_, m, cg, rfl, partL_len HL.out am, hcg, Res.of_row R4.out hgw, N4.out⟩
theorem PartOf_ansT (A : Option Addr) (n c : Nat) (zs : List Int) (at_ : Int) (hn : n ≤ 1048576) (hnc : n ≤ c) (w : World) (hx : Sts 9 w A n zs) :
    Calls Try.prog 18 #[.slice A n c, .int .i64 at_] w (AnsT 9 w (partOk n zs at_) (partA n zs at_)) :=
  (PartOf_ansR A n c zs at_ hn hnc w hx).mono fun _ _ ⟨A2, n2, c2, he, hl, _, hr, hN⟩ => ⟨A2, n2, c2, he, hl, hr, hN⟩
end Go.Proofs.Ytobnjagmakhgpaa
