/- FlexSizes and LeftOver of the program and of the reference answer alike. Condition: the sizes can be read. -/
import Derived.Test.YtnipnemhbelcaaaFlexQ
namespace Go.Proofs.Ytnipnemhbelcaaa
open Go.RowKit

set_option maxHeartbeats 2000000 in
theorem bases_any (A : Option Addr) (n c : Nat) (zs : List Int) (hn : n ≤ 8) (w : World) (hx : Sts 5 w A n zs) :
    Calls Try.prog 60 #[.slice A n c] w fun e w' => ∃ v, e = .returned v ∧ Own w.heap.size w' v (colL n zs 0) ∧ New w w' := by
  have HX := Lib.hid hx
  clear hx
  have i8 : (n : Int) ≤ 8 := by omega
  go_enter Try.func60, Try.ntmps60
  go_wp2
  go_loopw [3, 4] (fun v i wr => ∃ k : Nat, k ≤ n ∧ i = .int .i64 k ∧ Hid (Own w.heap.size wr v ((colL n zs 0).take k)) ∧ Hid (New w wr)) (fun _ i _ => n - (intOf i).toNat)
  case atStart => exact ⟨0, Nat.zero_le _, rfl, Lib.hid (Own.empty w 0 (Nat.le_refl _) rfl), Lib.hid (by (repeat (first | exact New.refl _ | assumption | refine New.alloc ?_ _ | refine New.drew ?_ | refine New.drewN ?_ _ | refine New.setCell ?_ (by first | omega | (simp; omega) | (simp; done)) _ | refine New.trans ?_ (by assumption))))⟩
  case round =>
    obtain ⟨k, hk, rfl, HO, HN⟩ := hrel
    have sz1 := HN.out.le
    by_cases hlt : k < n
    · obtain ⟨b, off, rfl, hb, hc⟩ := HX.out.at_ (by omega)
      have g0 : wr.cell? ⟨b, off + k * 5, none⟩ = some (.int .i64 (zs.getD (k * 5) 0)) := (HN.out.cells b _ hb).trans (hc (k * 5) (by omega))
      have tk : (colL n zs 0).take (k + 1) = (colL n zs 0).take k ++ [zs.getD (k * 5) 0] := by rw [take_snoc_i (by rw [colL_len]; exact hlt), colL_at hlt, Nat.add_zero]
      have tl : ((colL n zs 0).take k).length = k := by rw [List.length_take, colL_len]; omega
      have TK := Lib.hid tk; have TL := Lib.hid tl
      have k0 : (0 : Int) ≤ (k : Int) := by omega
      have k1 : (k : Int) < (n : Int) := by omega
      clear hc tk tl
      generalize zs.getD (k * 5) 0 = u at *
      go_wp2_with (at_builtin; refine wp_app rfl _ _ rfl w.heap.size _ _ rfl (HO.out.alloc _) (some ⟨wr.heap.size, 0, none⟩) 1 1 [u] rfl (Ints.one wr _ _) (by rw [TL.out]; omega) (by simp; omega) ?_; intro v6 w6 O6 G6)
      have N6 := Lib.hid (new_own (HN.out.alloc _) G6 (HO.out.alloc _) (Nat.le_refl _))
      replace O6 := Lib.hid O6
      clear G6
      go_wp2
      go_roundw
      case rel => exact ⟨k + 1, by omega, by go_num, Lib.hid (by rw [TK.out]; exact O6.out), N6⟩
      case measure => simp [intOf]; omega
    · obtain rfl : n = k := by omega
      have HO2 := HO.out
      rw [List.take_of_length_le (by rw [colL_len]; exact Nat.le_refl _)] at HO2
      replace HO2 := Lib.hid HO2
      obtain ⟨v, hv⟩ : ∃ v, v = u3 := ⟨_, rfl⟩
      rw [← hv] at HO2 ⊢
      clear HO hv
      go_wp2
      go_ret
      exact ⟨v, rfl, HO2.out, HN.out⟩
theorem flexL_at_grow {n : Nat} {zs : List Int} {s : Int} (hl : 0 ≤ s - (colL n zs 0).sum) {i : Nat} (hi : i < n) : (flexL n zs s).getD i 0 = zs.getD (i * 5 + 2) 0 - (finL (colL n zs 3) (roomG n zs) (s - (colL n zs 0).sum)).getD i 0 := by
  unfold flexL
  rw [if_pos hl]
  have h := roomG_at (zs := zs) hi
  simp only [List.getD_eq_getElem?_getD] at h ⊢
  simp [hi]
  omega
theorem flexL_at_shrink {n : Nat} {zs : List Int} {s : Int} (hl : ¬ 0 ≤ s - (colL n zs 0).sum) {i : Nat} (hi : i < n) : (flexL n zs s).getD i 0 = zs.getD (i * 5 + 1) 0 + (finL (colL n zs 4) (roomS n zs) ((colL n zs 0).sum - s)).getD i 0 := by
  unfold flexL
  rw [if_neg hl]
  have h := roomS_at (zs := zs) hi
  simp only [List.getD_eq_getElem?_getD] at h ⊢
  simp [hi]
  omega
theorem list_ext {xs ys : List Int} (hl : xs.length = ys.length) (h : ∀ i, i < xs.length → xs.getD i 0 = ys.getD i 0) : xs = ys := by
  apply List.ext_getElem hl
  intro i h1 h2
  have h := h i h1
  simpa [h1, h2] using h
set_option maxRecDepth 100000 in
set_option maxHeartbeats 4000000 in
theorem sflex_any (A : Option Addr) (n c : Nat) (zs : List Int) (s : Int) (hv : flsB n zs = true) (hs : 0 ≤ s ∧ s ≤ 200000) (w : World) (hx : Sts 5 w A n zs) :
    Calls Try.prog 44 #[.slice A n c, .int .i64 s] w (Ans w (flexL n zs s)) := by
  have HX := Lib.hid hx; have HV := Lib.hid hv
  obtain ⟨⟨n1, n8⟩, hok⟩ := flsB_iff.1 hv
  have HOK := Lib.hid (fun k hk => flOk_iff.1 (hok k hk))
  have bn := colL_sum_bd hv n (Nat.le_refl _)
  rw [List.take_of_length_le (by rw [colL_len]; exact Nat.le_refl _)] at bn
  have hsm : Hid (Sml (colL n zs 0)) := Lib.hid (all_at (P := fun z => -1000000000 ≤ z ∧ z ≤ 1000000000) fun i hi => by
    rw [colL_len] at hi
    have := flOk_iff.1 (hok i hi)
    rw [colL_at hi, Nat.add_zero]
    omega)
  have LC := Lib.hid (colL_len n zs 0)
  obtain ⟨ba, boff, hA, hba, hca⟩ := hx.at_ (by omega)
  have sep := Lib.hid (fun (go : Nat) (h : w.heap.size ≤ go) => (fun b off e => by rw [hA] at e; have e := Option.some.inj e; have := congrArg Addr.block e; simp at this; omega : ∀ b off, A = some ⟨b, off, none⟩ → b ≠ go))
  have hs' := Lib.hid hs
  obtain ⟨hs0, hs1⟩ := hs
  clear hx hv hok hA hba hca
  by_cases hl : 0 ≤ s - (colL n zs 0).sum
  · have RM := Lib.hid (Rm.grow HV.out hs'.out hl)
    have FA := Lib.hid (fun i (hi : i < n) => flexL_at_grow (zs := zs) hl hi)
    generalize hS : (colL n zs 0).sum = S at *
    have HS := Lib.hid hS
    have hge : S ≤ s := by omega
    clear hS hl
    go_enter Try.func44, Try.ntmps44
    go_wp2_with fail
    refine (bases_any A n c zs n8 _ HX.out).mono ?_
    rintro e w1 ⟨v, rfl, O1, N1⟩
    obtain ⟨B1, c1, rfl, _, Z1⟩ := O1.res
    rw [LC.out]
    have I1 := Lib.hid (Z1.ints LC.out)
    obtain ⟨go, rfl, hgo, _, R1⟩ := Z1.2 (by have := LC.out; omega)
    replace R1 := Lib.hid R1; replace N1 := Lib.hid N1
    clear O1 Z1
    go_wp2_with fail
    refine (ssum_any _ n _ _ (by omega) _ I1.out hsm.out).mono ?_
    rintro e w' ⟨rfl, rfl⟩
    rw [HS.out]
    go_wp2_with fail
    refine (ssum_any _ n _ _ (by omega) _ I1.out hsm.out).mono ?_
    rintro e w' ⟨rfl, rfl⟩
    rw [HS.out]
    go_wp2_with fail
    refine (sgrow_any A n c go _ zs (colL n zs 0) (roomG n zs) (s - S) HV.out RM.out LC.out (fun i hi => by rw [colL_at hi, roomG_at hi, Nat.add_zero]; omega) _ (HX.out.new N1.out) R1.out (sep.out go hgo)).mono ?_
    rintro e w2 ⟨rfl, os, lo, R2, ho, G2⟩
    have fe : os = flexL n zs s := list_ext (by rw [lo, flexL_len]) (fun i hi => by rw [ho i (by omega), FA.out i (by omega)])
    rw [fe] at R2
    have N2 := Lib.hid ((Chg.of_grown G2 (Nat.le_refl _) (Nat.lt_succ_self _)).new N1.out hgo)
    replace R2 := Lib.hid R2
    clear ho fe lo G2
    go_wp2
    go_ret
    exact Ans.row rfl (flexL_len _ _ _) hgo R2.out N2.out
  · have RM := Lib.hid (Rm.shrink HV.out hs'.out hl)
    have FA := Lib.hid (fun i (hi : i < n) => flexL_at_shrink (zs := zs) hl hi)
    generalize hS : (colL n zs 0).sum = S at *
    have HS := Lib.hid hS
    have hge : ¬ S ≤ s := by omega
    clear hS hl
    go_enter Try.func44, Try.ntmps44
    go_wp2_with fail
    refine (bases_any A n c zs n8 _ HX.out).mono ?_
    rintro e w1 ⟨v, rfl, O1, N1⟩
    obtain ⟨B1, c1, rfl, _, Z1⟩ := O1.res
    rw [LC.out]
    have I1 := Lib.hid (Z1.ints LC.out)
    obtain ⟨go, rfl, hgo, _, R1⟩ := Z1.2 (by have := LC.out; omega)
    replace R1 := Lib.hid R1; replace N1 := Lib.hid N1
    clear O1 Z1
    go_wp2_with fail
    refine (ssum_any _ n _ _ (by omega) _ I1.out hsm.out).mono ?_
    rintro e w' ⟨rfl, rfl⟩
    rw [HS.out]
    go_wp2_with fail
    refine (ssum_any _ n _ _ (by omega) _ I1.out hsm.out).mono ?_
    rintro e w' ⟨rfl, rfl⟩
    rw [HS.out]
    go_wp2_with fail
    refine (sshrink_any A n c go _ zs (colL n zs 0) (roomS n zs) (S - s) HV.out RM.out LC.out (fun i hi => by rw [colL_at hi, roomS_at hi, Nat.add_zero]; omega) _ (HX.out.new N1.out) R1.out (sep.out go hgo)).mono ?_
    rintro e w2 ⟨rfl, os, lo, R2, ho, G2⟩
    have fe : os = flexL n zs s := list_ext (by rw [lo, flexL_len]) (fun i hi => by rw [ho i (by omega), FA.out i (by omega)])
    rw [fe] at R2
    have N2 := Lib.hid ((Chg.of_grown G2 (Nat.le_refl _) (Nat.lt_succ_self _)).new N1.out hgo)
    replace R2 := Lib.hid R2
    clear ho fe lo G2
    go_wp2
    go_ret
    exact Ans.row rfl (flexL_len _ _ _) hgo R2.out N2.out
end Go.Proofs.Ytnipnemhbelcaaa
