/- Parts that belong together: FlexR, FlexZ, FlexE. Conditions: as each part says. -/
import Derived.Test.YtobnjagmakhgpaaFlexQ
import Derived.Lib.SliceRun
/- FlexSizes and LeftOver of the program and of the reference answer alike. Condition: the sizes can be read. -/
namespace Go.Proofs.Ytobnjagmakhgpaa
open Go.RowKit

set_option maxHeartbeats 2000000 in
theorem bases_any (A : Option Addr) (n c : Nat) (zs : List Int) (hn : n ≤ 8) (w : World) (hx : Sts 5 w A n zs) :
    Calls Try.prog 107 #[.slice A n c] w fun e w' => ∃ v, e = .returned v ∧ Own w.heap.size w' v (colL n zs 0) ∧ New w w' := by
  have HX := Lib.hid hx
  clear hx
  have i8 : (n : Int) ≤ 8 := by omega
  go_enter Try.func107, Try.ntmps107
  go_wp2
  go_loopw [3, 4] (fun v i wr => ∃ k : Nat, k ≤ n ∧ i = .int .i64 k ∧ Hid (Own w.heap.size wr v ((colL n zs 0).take k)) ∧ Hid (New w wr)) (fun _ i _ => n - (intOf i).toNat)
  case atStart => exact ⟨0, Nat.zero_le _, rfl, Lib.hid (Own.empty w 0 (Nat.le_refl _) rfl), Lib.hid (by (repeat (first | exact New.refl _ | assumption | refine New.alloc ?_ _ | refine New.drew ?_ | refine New.drewN ?_ _ | refine New.setCell ?_ (by first | omega | (simp; omega) | (simp; done)) _ | refine New.trans ?_ (by assumption))))⟩
  case round =>
    obtain ⟨k, hk, rfl, HO, HN⟩ := hrel
    have sz1 := HN.out.le
    by_cases hlt : k < n
    · obtain ⟨b, off, rfl, hb, hc⟩ := HX.out.at_ (by omega)
      have g0 : wr.cell? ⟨b, off + k * 5, none⟩ = some (.int .i64 (zs.getD (k * 5) 0)) := (HN.out.cells b _ hb).trans (hc (k * 5) (by omega))
      have tk : (colL n zs 0).take (k + 1) = (colL n zs 0).take k ++ [zs.getD (k * 5) 0] := by rw [take_snoc_i (by rw [colL_len]; exact hlt), colL_at hlt, Nat.add_zero]
      have tl : ((colL n zs 0).take k).length = k := by rw [List.length_take, colL_len]; omega
      have TK := Lib.hid tk; have TL := Lib.hid tl
      have k0 : (0 : Int) ≤ (k : Int) := by omega
      have k1 : (k : Int) < (n : Int) := by omega
      clear hc tk tl
      generalize zs.getD (k * 5) 0 = u at *
      go_wp2_with (at_builtin; refine wp_app rfl _ _ rfl w.heap.size _ _ rfl (HO.out.alloc _) (some ⟨wr.heap.size, 0, none⟩) 1 1 [u] rfl (Ints.one wr _ _) (by rw [TL.out]; omega) (by simp; omega) ?_; intro v6 w6 O6 G6)
      have N6 := Lib.hid (new_own (HN.out.alloc _) G6 (HO.out.alloc _) (Nat.le_refl _))
      replace O6 := Lib.hid O6
      clear G6
      go_wp2
      go_roundw
      case rel => exact ⟨k + 1, by omega, by go_num, Lib.hid (by rw [TK.out]; exact O6.out), N6⟩
      case measure => simp [intOf]; omega
    · obtain rfl : n = k := by omega
      have HO2 := HO.out
      rw [List.take_of_length_le (by rw [colL_len]; exact Nat.le_refl _)] at HO2
      replace HO2 := Lib.hid HO2
      obtain ⟨v, hv⟩ : ∃ v, v = u3 := ⟨_, rfl⟩
      rw [← hv] at HO2 ⊢
      clear HO hv
      go_wp2
      go_ret
      exact ⟨v, rfl, HO2.out, HN.out⟩
theorem flexL_at_grow {n : Nat} {zs : List Int} {s : Int} (hl : 0 ≤ s - (colL n zs 0).sum) {i : Nat} (hi : i < n) : (flexL n zs s).getD i 0 = zs.getD (i * 5 + 2) 0 - (finL (colL n zs 3) (roomG n zs) (s - (colL n zs 0).sum)).getD i 0 := by
  unfold flexL
  rw [if_pos hl]
  have h := roomG_at (zs := zs) hi
  simp only [List.getD_eq_getElem?_getD] at h ⊢
  simp [hi]
  omega
theorem flexL_at_shrink {n : Nat} {zs : List Int} {s : Int} (hl : ¬ 0 ≤ s - (colL n zs 0).sum) {i : Nat} (hi : i < n) : (flexL n zs s).getD i 0 = zs.getD (i * 5 + 1) 0 + (finL (colL n zs 4) (roomS n zs) ((colL n zs 0).sum - s)).getD i 0 := by
  unfold flexL
  rw [if_neg hl]
  have h := roomS_at (zs := zs) hi
  simp only [List.getD_eq_getElem?_getD] at h ⊢
  simp [hi]
  omega
theorem list_ext {xs ys : List Int} (hl : xs.length = ys.length) (h : ∀ i, i < xs.length → xs.getD i 0 = ys.getD i 0) : xs = ys := by
  apply List.ext_getElem hl
  intro i h1 h2
  have h := h i h1
  simpa [h1, h2] using h
set_option maxRecDepth 100000 in
set_option maxHeartbeats 4000000 in
theorem sflex_any (A : Option Addr) (n c : Nat) (zs : List Int) (s : Int) (hv : flsB n zs = true) (hs : 0 ≤ s ∧ s ≤ 200000) (w : World) (hx : Sts 5 w A n zs) :
    Calls Try.prog 97 #[.slice A n c, .int .i64 s] w (Ans w (flexL n zs s)) := by
  have HX := Lib.hid hx; have HV := Lib.hid hv
  obtain ⟨⟨n1, n8⟩, hok⟩ := flsB_iff.1 hv
  have HOK := Lib.hid (fun k hk => flOk_iff.1 (hok k hk))
  have bn := colL_sum_bd hv n (Nat.le_refl _)
  rw [List.take_of_length_le (by rw [colL_len]; exact Nat.le_refl _)] at bn
  have hsm : Hid (Sml (colL n zs 0)) := Lib.hid (all_at (P := fun z => -1000000000 ≤ z ∧ z ≤ 1000000000) fun i hi => by
    rw [colL_len] at hi
    have := flOk_iff.1 (hok i hi)
    rw [colL_at hi, Nat.add_zero]
    omega)
  have LC := Lib.hid (colL_len n zs 0)
  obtain ⟨ba, boff, hA, hba, hca⟩ := hx.at_ (by omega)
  have sep := Lib.hid (fun (go : Nat) (h : w.heap.size ≤ go) => (fun b off e => by rw [hA] at e; have e := Option.some.inj e; have := congrArg Addr.block e; simp at this; omega : ∀ b off, A = some ⟨b, off, none⟩ → b ≠ go))
  have hs' := Lib.hid hs
  obtain ⟨hs0, hs1⟩ := hs
  clear hx hv hok hA hba hca
  by_cases hl : 0 ≤ s - (colL n zs 0).sum
  · have RM := Lib.hid (Rm.grow HV.out hs'.out hl)
    have FA := Lib.hid (fun i (hi : i < n) => flexL_at_grow (zs := zs) hl hi)
    generalize hS : (colL n zs 0).sum = S at *
    have HS := Lib.hid hS
    have hge : S ≤ s := by omega
    clear hS hl
    go_enter Try.func97, Try.ntmps97
    go_wp2_with fail
    refine (bases_any A n c zs n8 _ HX.out).mono ?_
    rintro e w1 ⟨v, rfl, O1, N1⟩
    obtain ⟨B1, c1, rfl, _, Z1⟩ := O1.res
    rw [LC.out]
    have I1 := Lib.hid (Z1.ints LC.out)
    obtain ⟨go, rfl, hgo, _, R1⟩ := Z1.2 (by have := LC.out; omega)
    replace R1 := Lib.hid R1; replace N1 := Lib.hid N1
    clear O1 Z1
    go_wp2_with fail
    refine (ssum_any _ n _ _ (by omega) _ I1.out hsm.out).mono ?_
    rintro e w' ⟨rfl, rfl⟩
    rw [HS.out]
    go_wp2_with fail
    refine (ssum_any _ n _ _ (by omega) _ I1.out hsm.out).mono ?_
    rintro e w' ⟨rfl, rfl⟩
    rw [HS.out]
    go_wp2_with fail
    refine (sgrow_any A n c go _ zs (colL n zs 0) (roomG n zs) (s - S) HV.out RM.out LC.out (fun i hi => by rw [colL_at hi, roomG_at hi, Nat.add_zero]; omega) _ (HX.out.new N1.out) R1.out (sep.out go hgo)).mono ?_
    rintro e w2 ⟨rfl, os, lo, R2, ho, G2⟩
    have fe : os = flexL n zs s := list_ext (by rw [lo, flexL_len]) (fun i hi => by rw [ho i (by omega), FA.out i (by omega)])
    rw [fe] at R2
    have N2 := Lib.hid ((Chg.of_grown G2 (Nat.le_refl _) (Nat.lt_succ_self _)).new N1.out hgo)
    replace R2 := Lib.hid R2
    clear ho fe lo G2
    go_wp2
    go_ret
    exact Ans.row rfl (flexL_len _ _ _) hgo R2.out N2.out
  · have RM := Lib.hid (Rm.shrink HV.out hs'.out hl)
    have FA := Lib.hid (fun i (hi : i < n) => flexL_at_shrink (zs := zs) hl hi)
    generalize hS : (colL n zs 0).sum = S at *
    have HS := Lib.hid hS
    have hge : ¬ S ≤ s := by omega
    clear hS hl
    go_enter Try.func97, Try.ntmps97
    go_wp2_with fail
    refine (bases_any A n c zs n8 _ HX.out).mono ?_
    rintro e w1 ⟨v, rfl, O1, N1⟩
    obtain ⟨B1, c1, rfl, _, Z1⟩ := O1.res
    rw [LC.out]
    have I1 := Lib.hid (Z1.ints LC.out)
    obtain ⟨go, rfl, hgo, _, R1⟩ := Z1.2 (by have := LC.out; omega)
    replace R1 := Lib.hid R1; replace N1 := Lib.hid N1
    clear O1 Z1
    go_wp2_with fail
    refine (ssum_any _ n _ _ (by omega) _ I1.out hsm.out).mono ?_
    rintro e w' ⟨rfl, rfl⟩
    rw [HS.out]
    go_wp2_with fail
    refine (ssum_any _ n _ _ (by omega) _ I1.out hsm.out).mono ?_
    rintro e w' ⟨rfl, rfl⟩
    rw [HS.out]
    go_wp2_with fail
    refine (sshrink_any A n c go _ zs (colL n zs 0) (roomS n zs) (S - s) HV.out RM.out LC.out (fun i hi => by rw [colL_at hi, roomS_at hi, Nat.add_zero]; omega) _ (HX.out.new N1.out) R1.out (sep.out go hgo)).mono ?_
    rintro e w2 ⟨rfl, os, lo, R2, ho, G2⟩
    have fe : os = flexL n zs s := list_ext (by rw [lo, flexL_len]) (fun i hi => by rw [ho i (by omega), FA.out i (by omega)])
    rw [fe] at R2
    have N2 := Lib.hid ((Chg.of_grown G2 (Nat.le_refl _) (Nat.lt_succ_self _)).new N1.out hgo)
    replace R2 := Lib.hid R2
    clear ho fe lo G2
    go_wp2
    go_ret
    exact Ans.row rfl (flexL_len _ _ _) hgo R2.out N2.out
end Go.Proofs.Ytobnjagmakhgpaa

/- FlexSizes and LeftOver of the program and of the reference, walked: both answer as the plain functions do. Condition: the sizes can be read. -/
namespace Go.Proofs.Ytobnjagmakhgpaa
open Go.RowKit

theorem flOkA_iff {n : Nat} {zs : List Int} {s : Int} : flOkA n zs s = true ↔ flsB n zs = true ∧ (0 ≤ s ∧ s ≤ 200000) := by
  unfold flOkA
  rw [Bool.and_eq_true, decide_eq_true_eq]
theorem FlexSizes_yes (A : Option Addr) (n c : Nat) (zs : List Int) (s : Int) (hv : flsB n zs = true) (hs : 0 ≤ s ∧ s ≤ 200000) (w : World) (hx : Sts 5 w A n zs) :
    Calls Try.prog 16 #[.slice A n c, .int .i64 s] w (Ans w (flexL n zs s)) := by
  by_cases hl : 0 ≤ s - (colL n zs 0).sum
  · exact FlexSizes_grow A n c zs s hv hs hl w hx
  · exact FlexSizes_shrink A n c zs s hv hs hl w hx
set_option maxRecDepth 100000 in
set_option maxHeartbeats 1000000 in
theorem FlexSizes_no (A : Option Addr) (n c : Nat) (zs : List Int) (s : Int) (hn : n ≤ 1048576) (h : flOkA n zs s = false) (w : World) (hx : Sts 5 w A n zs) :
    Calls Try.prog 16 #[.slice A n c, .int .i64 s] w fun e w' => e = .returned (.slice none 0 0) ∧ New w w' := by
  have HX := Lib.hid hx
  clear hx
  cases hv : flsB n zs
  · have HV := Lib.hid hv
    clear hv h
    go_enter Try.func16, Try.ntmps16
    go_wp2_with (go_at_call 47; refine (ValidFlexes_any A n c zs hn _ HX.out).mono ?_; rw [HV.out]; rintro e w1 ⟨rfl, N1⟩)
    go_ret
    exact ⟨rfl, N1⟩
  · have d1 : decide (0 ≤ s ∧ s ≤ 200000) = false := by
      unfold flOkA at h
      rw [hv, Bool.true_and] at h
      exact h
    have HV := Lib.hid hv
    clear hv h
    go_enter Try.func16, Try.ntmps16
    go_wp2_with (first
      | (go_at_call 47; refine (ValidFlexes_any A n c zs hn _ HX.out).mono ?_; rw [HV.out]; rintro e w1 ⟨rfl, N1⟩)
      | (go_at_call 39; refine (within_any _ _ _ _).mono ?_; rw [d1]; rintro e w' ⟨rfl, rfl⟩))
    go_ret
    exact ⟨rfl, N1⟩
theorem FlexSizes_ans (zs : List Int) (s : Int) (A : Option Addr) (n c : Nat) (w : World) (hx : Sts 5 w A n zs) (hn : n ≤ 1048576) :
    Calls Try.prog 16 #[.slice A n c, .int .i64 s] w (Ans w (flexA n zs s)) := by
  unfold flexA
  cases h : flOkA n zs s
  · rw [if_neg (by decide)]
    exact (FlexSizes_no A n c zs s hn h w hx).mono fun _ _ h => Ans.none_ h.1 h.2
  · rw [if_pos rfl]
    obtain ⟨hv, hs⟩ := flOkA_iff.1 h
    exact FlexSizes_yes A n c zs s hv hs w hx
theorem flexA_len (n : Nat) (zs : List Int) (s : Int) : (flexA n zs s).length ≤ 8 := by
  unfold flexA
  split
  · next h => rw [flexL_len]; exact (flsB_iff.1 (flOkA_iff.1 h).1).1.2
  · simp
theorem flexL_bd {n : Nat} {zs : List Int} {s : Int} (hv : flsB n zs = true) (hs : 0 ≤ s ∧ s ≤ 200000) (i : Nat) (hi : i < n) : zs.getD (i * 5 + 1) 0 ≤ (flexL n zs s).getD i 0 ∧ (flexL n zs s).getD i 0 ≤ zs.getD (i * 5 + 2) 0 := by
  have hk := flOk_iff.1 ((flsB_iff.1 hv).2 i hi)
  by_cases hl : 0 ≤ s - (colL n zs 0).sum
  · obtain ⟨⟨a', h1⟩, h2⟩ := (Rm.grow hv hs hl).fin
    rw [flexL_at_grow hl hi]
    have h3 := h1.rb i hi
    have h4 := h2 i hi
    rw [roomG_at hi] at h4
    omega
  · obtain ⟨⟨a', h1⟩, h2⟩ := (Rm.shrink hv hs hl).fin
    rw [flexL_at_shrink hl hi]
    have h3 := h1.rb i hi
    have h4 := h2 i hi
    rw [roomS_at hi] at h4
    omega
theorem flexL_sml {n : Nat} {zs : List Int} {s : Int} (hv : flsB n zs = true) (hs : 0 ≤ s ∧ s ≤ 200000) : Sml (flexL n zs s) := all_at (P := fun z => -1000000000 ≤ z ∧ z ≤ 1000000000) fun i hi => by
  rw [flexL_len] at hi
  have h1 := flexL_bd hv hs i hi
  have h2 := flOk_iff.1 ((flsB_iff.1 hv).2 i hi)
  omega
/-- What is left of a space. -/
def leftO (n : Nat) (zs : List Int) (s : Int) : Int := if flOkA n zs s = true then s - (flexL n zs s).sum else 0
end Go.Proofs.Ytobnjagmakhgpaa

/- Plain facts on flexible sizes for the laws: who has a bound to reach, what is left, and that more space makes the sizes no smaller together. No condition. -/
namespace Go.Proofs.Ytobnjagmakhgpaa
open Go.RowKit
theorem wrapEq64 (x : Int) : IntKind.i64.wrap x = wrap64 x := by unfold wrap64; rw [IntKind.wrap_i64]
section
variable {n : Nat} {wt rooms : List Int} {a : Int}
theorem Rm.fin_still (h : Rm n wt rooms a) : ∃ a', Rm n wt (finL wt rooms a) a' ∧ a' = a - rooms.sum + (finL wt rooms a).sum ∧ (stepL wt (finL wt rooms a) a').sum = 0 := by
  generalize hm : rooms.sum.toNat = m
  induction m using Nat.strongRecOn generalizing rooms a with
  | ind m ih =>
    by_cases hs : (stepL wt rooms a).sum = 0
    · rw [fin_end hs]
      exact ⟨a, h, by omega, hs⟩
    · rw [h.fin_go hs]
      have h1 := h.step_le
      have h2 := h.next_sum
      obtain ⟨a', r, e, s⟩ := ih _ (by omega) h.next rfl
      exact ⟨a', r, by omega, s⟩
/-- What is left in the end: nothing, or nobody with a weight has room. -/
theorem Rm.fin_left (h : Rm n wt rooms a) : 0 ≤ a - rooms.sum + (finL wt rooms a).sum ∧ (0 < a - rooms.sum + (finL wt rooms a).sum → ∀ i, i < n → 0 < wt.getD i 0 → (finL wt rooms a).getD i 0 = 0) := by
  obtain ⟨a', r, e, s⟩ := h.fin_still
  have r0 := r.ab.1
  refine ⟨by omega, fun hp i hi hw => ?_⟩
  have hz := r.still.1 s
  have ho : (openL wt (finL wt rooms a)).sum = 0 := Classical.byContradiction fun hn => by
    rw [Go.Proofs.Ytobnjagmakhgpaa.share_sum r.ab.1 r.wts hn] at hz
    omega
  have hi2 : i < (openL wt (finL wt rooms a)).length := by rw [r.lo]; exact hi
  have h1 := mem_le_sum (xs := openL wt (finL wt rooms a)) (fun z hz => (r.open_bd z hz).1) (y := (openL wt (finL wt rooms a)).getD i 0) (by
    have e : (openL wt (finL wt rooms a)).getD i 0 = (openL wt (finL wt rooms a))[i] := by simp [hi2]
    rw [e]; exact List.getElem_mem hi2)
  rw [r.open_at hi] at h1
  by_cases hr : (finL wt rooms a).getD i 0 = 0
  · exact hr
  · rw [if_neg hr] at h1; omega
theorem Rm.fin_stiff (h : Rm n wt rooms a) {i : Nat} (hi : i < n) (hw : wt.getD i 0 = 0) : (finL wt rooms a).getD i 0 = rooms.getD i 0 := by
  generalize hm : rooms.sum.toNat = m
  induction m using Nat.strongRecOn generalizing rooms a with
  | ind m ih =>
    by_cases hs : (stepL wt rooms a).sum = 0
    · rw [fin_end hs]
    · rw [h.fin_go hs]
      have h1 := h.step_le
      have h2 := h.next_sum
      rw [ih _ (by omega) h.next rfl, h.next_at hi]
      have h3 := h.step_bd hi
      have h4 : (shareL a (openL wt rooms)).getD i 0 = 0 := by
        by_cases hz : (openL wt rooms).sum = 0
        · unfold shareL; rw [if_pos hz]; simp [h.lo, hi]
        · exact share_none h.ab.1 h.wts hz i (by rw [h.lo]; exact hi) (by rw [h.open_at hi, hw]; split <;> rfl)
      omega
theorem Rm.fin_zero (h : Rm n wt rooms a) (ha : a ≤ 0) : finL wt rooms a = rooms := by
  refine fin_end ?_
  have h1 := h.step_le
  omega
end
section
variable {n : Nat} {zs : List Int} {s : Int}
theorem roomG_sum : (roomG n zs).sum = (colL n zs 2).sum - (colL n zs 0).sum := by
  have e : roomG n zs = List.zipWith (· - ·) (colL n zs 2) (colL n zs 0) := list_ext (by simp [roomG, colL]) (fun i hi => by
    have hi : i < n := by simpa [roomG] using hi
    rw [roomG_at hi, zip_at (by rw [colL_len]; exact hi) (by rw [colL_len]; exact hi), colL_at hi, colL_at hi]; rfl)
  rw [e, sum_zip_sub (by rw [colL_len, colL_len])]
theorem roomS_sum : (roomS n zs).sum = (colL n zs 0).sum - (colL n zs 1).sum := by
  have e : roomS n zs = List.zipWith (· - ·) (colL n zs 0) (colL n zs 1) := list_ext (by simp [roomS, colL]) (fun i hi => by
    have hi : i < n := by simpa [roomS] using hi
    rw [roomS_at hi, zip_at (by rw [colL_len]; exact hi) (by rw [colL_len]; exact hi), colL_at hi, colL_at hi]; rfl)
  rw [e, sum_zip_sub (by rw [colL_len, colL_len])]
/-- Sizes that grow. -/
theorem flex_grow (hv : flsB n zs = true) (hs : 0 ≤ s ∧ s ≤ 200000) (hl : 0 ≤ s - (colL n zs 0).sum) :
    (∀ i, i < n → zs.getD (i * 5) 0 ≤ (flexL n zs s).getD i 0) ∧ (flexL n zs s).sum ≤ s ∧ ((flexL n zs s).sum < s → ∀ i, i < n → 0 < zs.getD (i * 5 + 3) 0 → (flexL n zs s).getD i 0 = zs.getD (i * 5 + 2) 0) ∧ (∀ i, i < n → zs.getD (i * 5 + 3) 0 = 0 → (flexL n zs s).getD i 0 = zs.getD (i * 5) 0) := by
  have R := Rm.grow hv hs hl
  obtain ⟨⟨a', h1⟩, h2⟩ := R.fin
  obtain ⟨l1, l2⟩ := R.fin_left
  have fs : (finL (colL n zs 3) (roomG n zs) (s - (colL n zs 0).sum)).sum = (colL n zs 2).sum - (flexL n zs s).sum := by
    have e : finL (colL n zs 3) (roomG n zs) (s - (colL n zs 0).sum) = List.zipWith (· - ·) (colL n zs 2) (flexL n zs s) := list_ext (by rw [List.length_zipWith, colL_len, flexL_len, h1.lr]; omega) (fun i hi => by
      rw [h1.lr] at hi
      rw [zip_at (by rw [colL_len]; exact hi) (by rw [flexL_len]; exact hi), colL_at hi, flexL_at_grow hl hi]; omega)
    rw [e, sum_zip_sub (by rw [colL_len, flexL_len])]
  rw [fs, roomG_sum] at l1 l2
  refine ⟨fun i hi => ?_, by omega, fun hp i hi hw => ?_, fun i hi hw => ?_⟩
  · have := h2 i hi
    rw [roomG_at hi] at this
    rw [flexL_at_grow hl hi]; omega
  · have := l2 (by omega) i hi (by rw [colL_at hi]; exact hw)
    rw [flexL_at_grow hl hi, this]; omega
  · have := R.fin_stiff hi (by rw [colL_at hi]; exact hw)
    rw [flexL_at_grow hl hi, this, roomG_at hi]; omega
/-- Sizes that shrink. -/
theorem flex_shrink (hv : flsB n zs = true) (hs : 0 ≤ s ∧ s ≤ 200000) (hl : ¬ 0 ≤ s - (colL n zs 0).sum) :
    (∀ i, i < n → (flexL n zs s).getD i 0 ≤ zs.getD (i * 5) 0) ∧ s ≤ (flexL n zs s).sum ∧ (s < (flexL n zs s).sum → ∀ i, i < n → 0 < zs.getD (i * 5 + 4) 0 → (flexL n zs s).getD i 0 = zs.getD (i * 5 + 1) 0) ∧ (∀ i, i < n → zs.getD (i * 5 + 4) 0 = 0 → (flexL n zs s).getD i 0 = zs.getD (i * 5) 0) := by
  have R := Rm.shrink hv hs hl
  obtain ⟨⟨a', h1⟩, h2⟩ := R.fin
  obtain ⟨l1, l2⟩ := R.fin_left
  have fs : (finL (colL n zs 4) (roomS n zs) ((colL n zs 0).sum - s)).sum = (flexL n zs s).sum - (colL n zs 1).sum := by
    have e : finL (colL n zs 4) (roomS n zs) ((colL n zs 0).sum - s) = List.zipWith (· - ·) (flexL n zs s) (colL n zs 1) := list_ext (by rw [List.length_zipWith, colL_len, flexL_len, h1.lr]; omega) (fun i hi => by
      rw [h1.lr] at hi
      rw [zip_at (by rw [flexL_len]; exact hi) (by rw [colL_len]; exact hi), colL_at hi, flexL_at_shrink hl hi]; omega)
    rw [e, sum_zip_sub (by rw [colL_len, flexL_len])]
  rw [fs, roomS_sum] at l1 l2
  refine ⟨fun i hi => ?_, by omega, fun hp i hi hw => ?_, fun i hi hw => ?_⟩
  · have := h2 i hi
    rw [roomS_at hi] at this
    rw [flexL_at_shrink hl hi]; omega
  · have := l2 (by omega) i hi (by rw [colL_at hi]; exact hw)
    rw [flexL_at_shrink hl hi, this]; omega
  · have := R.fin_stiff hi (by rw [colL_at hi]; exact hw)
    rw [flexL_at_shrink hl hi, this, roomS_at hi]; omega
theorem cbase_bd (hv : flsB n zs = true) : 0 ≤ (colL n zs 0).sum ∧ (colL n zs 0).sum ≤ 200000 := by
  have h := colL_sum_bd hv n (Nat.le_refl _)
  rw [List.take_of_length_le (by rw [colL_len]; exact Nat.le_refl _)] at h
  have := (flsB_iff.1 hv).1
  omega
theorem flex_base (hv : flsB n zs = true) : flexL n zs (colL n zs 0).sum = colL n zs 0 := by
  have hl : 0 ≤ (colL n zs 0).sum - (colL n zs 0).sum := by omega
  refine list_ext (by rw [flexL_len, colL_len]) (fun i hi => ?_)
  rw [flexL_len] at hi
  rw [flexL_at_grow hl hi, (Rm.grow hv (cbase_bd hv) hl).fin_zero (by omega), roomG_at hi, colL_at hi]
  simp only [Nat.add_zero]
  omega
/-- More space makes the sizes no smaller together. -/
theorem flex_more (hv : flsB n zs = true) (h0 : 0 ≤ s) (h1 : s + 1 ≤ 200000) : (flexL n zs s).sum ≤ (flexL n zs (s + 1)).sum := by
  have hs : 0 ≤ s ∧ s ≤ 200000 := ⟨h0, by omega⟩
  have hs' : 0 ≤ s + 1 ∧ s + 1 ≤ 200000 := ⟨by omega, h1⟩
  have ll : (flexL n zs s).length = (flexL n zs (s + 1)).length := by rw [flexL_len, flexL_len]
  by_cases hl : 0 ≤ s - (colL n zs 0).sum
  · have hl' : 0 ≤ s + 1 - (colL n zs 0).sum := by omega
    obtain ⟨a1, a2, a3, a4⟩ := flex_grow hv hs hl
    obtain ⟨b1, b2, b3, b4⟩ := flex_grow hv hs' hl'
    by_cases hf : (flexL n zs (s + 1)).sum < s + 1
    · refine sum_mono ll (fun i hi => ?_)
      rw [flexL_len] at hi
      by_cases hw : zs.getD (i * 5 + 3) 0 = 0
      · rw [a4 i hi hw, b4 i hi hw]; exact Int.le_refl _
      · have hk := flOk_iff.1 ((flsB_iff.1 hv).2 i hi)
        rw [b3 hf i hi (by omega)]
        exact (flexL_bd hv hs i hi).2
    · omega
  · obtain ⟨a1, a2, a3, a4⟩ := flex_shrink hv hs hl
    by_cases hl' : 0 ≤ s + 1 - (colL n zs 0).sum
    · obtain ⟨b1, b2, b3, b4⟩ := flex_grow hv hs' hl'
      refine sum_mono ll (fun i hi => ?_)
      rw [flexL_len] at hi
      exact Int.le_trans (a1 i hi) (b1 i hi)
    · obtain ⟨b1, b2, b3, b4⟩ := flex_shrink hv hs' hl'
      by_cases hf : s < (flexL n zs s).sum
      · refine sum_mono ll (fun i hi => ?_)
        rw [flexL_len] at hi
        by_cases hw : zs.getD (i * 5 + 4) 0 = 0
        · rw [a4 i hi hw, b4 i hi hw]; exact Int.le_refl _
        · have hk := flOk_iff.1 ((flsB_iff.1 hv).2 i hi)
          rw [a3 hf i hi (by omega)]
          exact (flexL_bd hv hs' i hi).1
      · omega
/-- Sizes without weights stay. -/
theorem flex_stiff (hv : flsB n zs = true) (hs : 0 ≤ s ∧ s ≤ 200000) (hw : ∀ i, i < n → zs.getD (i * 5 + 3) 0 = 0 ∧ zs.getD (i * 5 + 4) 0 = 0) : flexL n zs s = colL n zs 0 := by
  refine list_ext (by rw [flexL_len, colL_len]) (fun i hi => ?_)
  rw [flexL_len] at hi
  rw [colL_at hi, Nat.add_zero]
  by_cases hl : 0 ≤ s - (colL n zs 0).sum
  · exact (flex_grow hv hs hl).2.2.2 i hi (hw i hi).1
  · exact (flex_shrink hv hs hl).2.2.2 i hi (hw i hi).2
/-- One size with both weights 1. -/
theorem flex_one {b lo hi : Int} (hv : flsB 1 [b, lo, hi, 1, 1] = true) (hs : 0 ≤ s ∧ s ≤ 200000) : flexL 1 [b, lo, hi, 1, 1] s = [max lo (min hi s)] := by
  have hk := flOk_iff.1 ((flsB_iff.1 hv).2 0 (by omega))
  have hb := flexL_bd hv hs 0 (by omega)
  have ln := flexL_len 1 [b, lo, hi, 1, 1] s
  have cb : (colL 1 [b, lo, hi, 1, 1] 0).sum = b := by simp [colL]
  have hg := fun hl => flex_grow hv hs hl
  have hh := fun hl => flex_shrink hv hs hl
  rw [cb] at hg hh
  generalize flexL 1 [b, lo, hi, 1, 1] s = os at *
  obtain ⟨o, rfl⟩ : ∃ o, os = [o] := List.length_eq_one_iff.1 ln
  simp at hk hb hg hh
  congr 1
  by_cases hl : b ≤ s
  · obtain ⟨g1, g2, g3⟩ := hg hl
    by_cases ho : o < s
    · have := g3 ho; omega
    · omega
  · obtain ⟨g1, g2, g3⟩ := hh (by omega)
    by_cases ho : s < o
    · have := g3 ho; omega
    · omega
end
end Go.Proofs.Ytobnjagmakhgpaa
