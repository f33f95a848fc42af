/- Parts that belong together: OffsM, Offs, OffsS, OffsZ, OffsE. Conditions: as each part says. -/
import Derived.Test.YtobnjagmakhgpaaZM
import Derived.Test.YtobnjagmakhgpaaSumG
import Derived.Test.YtobnjagmakhgpaaZJ
/- Plain facts on offsets: where sizes begin, from what is in front of each; the same as the reference's running place. No condition. -/
namespace Go.Proofs.Ytobnjagmakhgpaa
open Go.RowKit

/-- The end of the sizes before place k, with a gap. -/
def endAt (gap : Int) (fr sz : List Int) : Nat → Int
  | 0 => 0
  | k + 1 => fr.getD k 0 + endAt gap fr sz k + sz.getD k 0 + gap
def offAt (gap : Int) (fr sz : List Int) (k : Nat) : Int := fr.getD k 0 + endAt gap fr sz k
def offsL (gap : Int) (fr sz : List Int) : List Int := (List.range sz.length).map (offAt gap fr sz)
theorem offsL_len (gap : Int) (fr sz : List Int) : (offsL gap fr sz).length = sz.length := by simp [offsL]
theorem offsL_at (gap : Int) (fr sz : List Int) (k : Nat) (h : k < sz.length) : (offsL gap fr sz).getD k 0 = offAt gap fr sz k := by simp [offsL, h]
theorem endAt_succ (gap : Int) (fr sz : List Int) (k : Nat) : endAt gap fr sz (k + 1) = offAt gap fr sz k + sz.getD k 0 + gap := rfl
theorem offAt_succ (gap : Int) (fr sz : List Int) (k : Nat) : offAt gap fr sz (k + 1) = offAt gap fr sz k + sz.getD k 0 + gap + fr.getD (k + 1) 0 := by
  show fr.getD (k + 1) 0 + endAt gap fr sz (k + 1) = _
  rw [endAt_succ]; omega
theorem end_bd (gap : Int) (fr sz : List Int) (hg : 0 ≤ gap ∧ gap ≤ 50) (hf : ∀ i, 0 ≤ fr.getD i 0 ∧ fr.getD i 0 ≤ 200001) (hs : ∀ i, 0 ≤ sz.getD i 0 ∧ sz.getD i 0 ≤ 10000) (k : Nat) : 0 ≤ endAt gap fr sz k ∧ endAt gap fr sz k ≤ 220000 * (k : Int) := by
  induction k with
  | zero => exact ⟨Int.le_refl _, by simp [endAt]⟩
  | succ k ih =>
    have h1 := hf k
    have h2 := hs k
    have e : endAt gap fr sz (k + 1) = fr.getD k 0 + endAt gap fr sz k + sz.getD k 0 + gap := rfl
    rw [e]
    omega
/-- The first k places are where sizes begin; the others are still what is in front. -/
def offTo (gap : Int) (fr sz : List Int) (k : Nat) : List Int := (offsL gap fr sz).take k ++ fr.drop k
theorem offTo_zero (gap : Int) (fr sz : List Int) : offTo gap fr sz 0 = fr := by simp [offTo]
theorem offTo_len (gap : Int) (fr sz : List Int) (k : Nat) (h : fr.length = sz.length) (hk : k ≤ sz.length) : (offTo gap fr sz k).length = sz.length := by
  unfold offTo
  rw [List.length_append, List.length_take, List.length_drop, offsL_len]
  omega
theorem offTo_all (gap : Int) (fr sz : List Int) (h : fr.length = sz.length) : offTo gap fr sz sz.length = offsL gap fr sz := by
  unfold offTo
  rw [List.take_of_length_le (by rw [offsL_len]; exact Nat.le_refl _), List.drop_of_length_le (by omega)]
  simp
theorem offTo_at (gap : Int) (fr sz : List Int) (k : Nat) (hk : k < sz.length) : (offTo gap fr sz k).getD k 0 = fr.getD k 0 := by
  unfold offTo
  have hl : ((offsL gap fr sz).take k).length = k := by rw [List.length_take, offsL_len]; omega
  simp [List.getElem?_append_right (show ((offsL gap fr sz).take k).length ≤ k by omega), hl]
theorem offTo_step (gap : Int) (fr sz : List Int) (k : Nat) (h : fr.length = sz.length) (hk : k < sz.length) : (offTo gap fr sz k).set k (offAt gap fr sz k) = offTo gap fr sz (k + 1) := by
  unfold offTo
  have hl : ((offsL gap fr sz).take k).length = k := by rw [List.length_take, offsL_len]; omega
  rw [take_snoc_i (by rw [offsL_len]; exact hk), offsL_at _ _ _ _ hk, List.set_append_right _ _ (by omega), hl, Nat.sub_self]
  have e : fr.drop k = fr[k] :: fr.drop (k + 1) := List.drop_eq_getElem_cons (by omega)
  rw [e, List.append_assoc]
  rfl
/-- What is left of a space. -/
def leftA (sz : List Int) (space gap : Int) : Int := mx 0 (space - sz.sum - gap * ((sz.length : Int) - 1))
def ofOk (sz : List Int) (space gap j : Int) : Bool := rowB 10000 sz && decide (0 ≤ space ∧ space ≤ 200000) && decide (0 ≤ gap ∧ gap ≤ 50) && decide (0 ≤ j ∧ j ≤ 3)
/-- Where sizes begin, or nothing for arguments that are not valid. -/
def offsA (sz : List Int) (space gap j : Int) : List Int := if ofOk sz space gap j = true then offsL gap (frontL (leftA sz space gap) sz.length j) sz else []
theorem leftA_bd (sz : List Int) (space gap : Int) (h0 : 0 ≤ sz.sum) (hs : 0 ≤ space ∧ space ≤ 200000) (hg : 0 ≤ gap * ((sz.length : Int) - 1)) : 0 ≤ leftA sz space gap ∧ leftA sz space gap ≤ 200000 := by
  unfold leftA mx
  omega
theorem set_bd {xs : List Int} {k : Nat} {v M : Int} (h : ∀ i, 0 ≤ xs.getD i 0 ∧ xs.getD i 0 ≤ M) (hv : 0 ≤ v ∧ v ≤ M) : ∀ i, 0 ≤ (xs.set k v).getD i 0 ∧ (xs.set k v).getD i 0 ≤ M := fun i => by
  by_cases hi : i < xs.length
  · rw [getD_set _ _ _ _ hi]
    split
    · exact hv
    · exact h i
  · have e : (xs.set k v).getD i 0 = 0 := by
      rw [List.getD_eq_getElem?_getD, List.getElem?_eq_none (by simp; omega)]
      rfl
    rw [e]
    omega
theorem zero_at (n i : Nat) : (List.replicate n (0 : Int)).getD i 0 = 0 := by
  by_cases h : i < n
  · simp [h]
  · simp [Nat.le_of_not_lt h]
theorem frontL_len (s : Int) (n : Nat) (j : Int) (hs : 0 ≤ s ∧ s ≤ 200000) (hn : 1 ≤ n ∧ n ≤ 8) : (frontL s n j).length = n := by
  unfold frontL
  split
  · simp
  split
  · simp
  split
  · rw [length_splice _ _ _ (by rw [shareA_ones s n hs hn.2, List.length_replicate]; omega), List.length_replicate]
  · simp
theorem shareA_bd (s : Int) (n : Nat) (hs : 0 ≤ s ∧ s ≤ 200000) : ∀ i, 0 ≤ (shareA s (onesL n)).getD i 0 ∧ (shareA s (onesL n)).getD i 0 ≤ 200000 := fun i => by
  unfold shareA
  split
  · next ok =>
    unfold shOk at ok
    rw [Bool.and_eq_true] at ok
    have h := rowB_len ok.2
    rw [ones_len] at h
    have := share_le hs.1 (ones_wts n) (by rw [ones_sum]; omega) i
    omega
  · simp
theorem frontL_three (s : Int) (n : Nat) (hs : 0 ≤ s ∧ s ≤ 200000) (hn : 1 ≤ n ∧ n ≤ 8) : frontL s n 3 = 0 :: shareA s (onesL (n - 1)) := by
  unfold frontL
  rw [if_neg (by omega), if_neg (by omega), if_pos rfl]
  unfold splice
  rw [List.drop_of_length_le (by rw [shareA_ones s n hs hn.2, List.length_replicate]; omega)]
  obtain ⟨k, rfl⟩ : ∃ k, n = k + 1 := ⟨n - 1, by omega⟩
  simp [List.replicate_succ]
theorem frontL_bd (s : Int) (n : Nat) (j : Int) (hs : 0 ≤ s ∧ s ≤ 200000) (hn : 1 ≤ n ∧ n ≤ 8) : ∀ i, 0 ≤ (frontL s n j).getD i 0 ∧ (frontL s n j).getD i 0 ≤ 200001 := fun i => by
  have hz : ∀ i, 0 ≤ (List.replicate n (0 : Int)).getD i 0 ∧ (List.replicate n (0 : Int)).getD i 0 ≤ 200001 := fun i => by rw [zero_at]; omega
  by_cases h3 : j = 3
  · subst h3
    rw [frontL_three s n hs hn]
    cases i with
    | zero => simp
    | succ i =>
      have := shareA_bd s (n - 1) hs i
      simp only [List.getD_cons_succ]
      omega
  · unfold frontL
    split
    · exact set_bd hz (by omega) i
    split
    · exact set_bd hz (by omega) i
    exact hz i
end Go.Proofs.Ytobnjagmakhgpaa

/- OffsetsOf of the program and of the reference, walked: both say where sizes begin as the plain function does. Condition: the sizes can be read. -/
namespace Go.Proofs.Ytobnjagmakhgpaa
open Go.RowKit

theorem prod_gap {g n : Int} (hg : 0 ≤ g ∧ g ≤ 50) (hn : 0 ≤ n ∧ n ≤ 8) : 0 ≤ g * n ∧ g * n ≤ 400 := by
  refine ⟨Int.mul_nonneg hg.1 hn.1, ?_⟩
  have h1 : g * n ≤ 50 * n := Int.mul_le_mul_of_nonneg_right hg.2 hn.1
  omega
set_option maxRecDepth 100000 in
set_option maxHeartbeats 4000000 in
theorem OffsetsOf_yes (A : Option Addr) (n c : Nat) (sz : List Int) (space gap j : Int) (hr : rowB 10000 sz = true) (hs : 0 ≤ space ∧ space ≤ 200000) (hg : 0 ≤ gap ∧ gap ≤ 50) (hj : 0 ≤ j ∧ j ≤ 3) (w : World) (hx : Ints w A n sz) :
    Calls Try.prog 146 #[.slice A n c, .int .i64 space, .int .i64 gap, .int .i64 j] w (Ans w (offsL gap (frontL (leftA sz space gap) sz.length j) sz)) := by
  have lx := hx.len
  obtain ⟨n1, n8⟩ := rowB_len hr
  have hsz : ∀ z ∈ sz, 0 ≤ z ∧ z ≤ 10000 := (rowB_iff.1 hr).2
  have hszd : ∀ i, 0 ≤ sz.getD i 0 ∧ sz.getD i 0 ≤ 10000 := fun i => getD_of_mem ⟨by omega, by omega⟩ hsz i
  have sml : Sml sz := fun z hz => by have := hsz z hz; omega
  have sb := sum_bd sml n
  rw [List.take_of_length_le (by omega)] at sb
  have s0 := sum_nonneg (xs := sz) fun z hz => (hsz z hz).1
  have pg := prod_gap (g := gap) (n := (n : Int) - 1) hg (by omega)
  have lb := leftA_bd sz space gap s0 hs (by rw [lx]; exact pg.1)
  have le : leftA sz space gap = mx 0 (space - gapSum sz gap) := by unfold leftA; rw [lx, gapSum_pos lx (show 1 ≤ n by omega), Int.sub_sub]
  have gs : 0 ≤ gapSum sz gap ∧ gapSum sz gap ≤ 10000000000 := by rw [gapSum_pos lx (show 1 ≤ n by omega)]; omega
  rw [lx]
  have fl := frontL_len (leftA sz space gap) n j lb (by omega)
  have fb := frontL_bd (leftA sz space gap) n j lb (by omega)
  have eb := end_bd gap (frontL (leftA sz space gap) n j) sz hg fb hszd
  have HX := Lib.hid hx; have LX := Lib.hid lx; have HR := Lib.hid hr; have HS := Lib.hid sml; have LB := Lib.hid lb
  have FL := Lib.hid fl; have FB := Lib.hid fb; have EB := Lib.hid eb; have SD := Lib.hid hszd
  have lb1 := lb.1; have lb2 := lb.2
  have d1 := decide_eq_true hs; have d2 := decide_eq_true hg; have d3 := decide_eq_true hj
  have i1 : (1 : Int) ≤ (n : Int) := by omega
  have i8 : (n : Int) ≤ 8 := by omega
  have hnn : 1 ≤ n ∧ n ≤ 8 := by omega
  have LE := Lib.hid le
  rw [le] at lb1 lb2
  have hmx := fun (W : World) (ts : Array TypeId) (t : TypeId) (x y : Int) => run_mx Try.prog W ts t x y
  clear hx lx hr hsz hszd sml lb fl fb eb le
  obtain ⟨hs0, hs1⟩ := hs
  obtain ⟨hg0, hg1⟩ := hg
  obtain ⟨pg0, pg1⟩ := pg
  obtain ⟨gs0, gs1⟩ := gs
  generalize hGS : gapSum sz gap = gs at *
  go_enter Try.func146, Try.ntmps146
  go_wp2_with (first
    | (go_at_call 100; refine (validRow_any A n c sz _ (by omega) _ (HX.out.new (by (repeat (first | exact New.refl _ | assumption | refine New.alloc ?_ _ | refine New.drew ?_ | refine New.drewN ?_ _ | refine New.setCell ?_ (by first | omega | (simp; omega) | (simp; done)) _ | refine New.trans ?_ (by assumption)))))).mono ?_; rw [HR.out]; rintro e w' ⟨rfl, rfl⟩)
    | (go_at_call_of 39 space; refine (within_any _ _ _ _).mono ?_; rw [d1]; rintro e w' ⟨rfl, rfl⟩)
    | (go_at_call_of 39 gap; refine (within_any _ _ _ _).mono ?_; rw [d2]; rintro e w' ⟨rfl, rfl⟩)
    | (go_at_call_of 39 j; refine (within_any _ _ _ _).mono ?_; rw [d3]; rintro e w' ⟨rfl, rfl⟩)
    | (go_at_call 147; refine (sumWithGaps_any A n c sz gap (by omega) ⟨hg0, hg1⟩ _ (HX.out.new (by (repeat (first | exact New.refl _ | assumption | refine New.alloc ?_ _ | refine New.drew ?_ | refine New.drewN ?_ _ | refine New.setCell ?_ (by first | omega | (simp; omega) | (simp; done)) _ | refine New.trans ?_ (by assumption))))) HS.out).mono ?_; rintro e w' ⟨rfl, rfl⟩)
    | (go_at_call 148; rw [← LE.out]; refine (spare_any (leftA sz space gap) n j LB.out hnn _).mono ?_; rintro e w2 ⟨g, rfl, hg2, R2, N2⟩))
  have R2 := Lib.hid R2; have N2 := Lib.hid N2
  clear hmx pg0 pg1 sb s0 lb1 lb2
  generalize hF : frontL (leftA sz space gap) n j = fr at *
  clear hF
  go_loopw [11, 45] (fun t i wr => ∃ k : Nat, k ≤ n ∧ i = .int .i64 k ∧ t = .int .i64 (endAt gap fr sz k) ∧ Hid (Row wr g (offTo gap fr sz k)) ∧ Hid (New w wr)) (fun _ i _ => n - (intOf i).toNat)
  case atStart => exact ⟨0, Nat.zero_le _, rfl, rfl, Lib.hid (by rw [offTo_zero]; exact R2.out), N2⟩
  case round =>
    obtain ⟨k, hk, rfl, rfl, HRW, HN⟩ := hrel
    by_cases hlt : k < n
    · obtain ⟨b, off, rfl, hb, hc⟩ := HX.out.at_ (by omega)
      have g1 := (HN.out.cells b _ hb).trans (hc k hlt)
      have hl : fr.length = sz.length := FL.out.trans LX.out.symm
      have tl : (offTo gap fr sz k).length = n := by rw [offTo_len _ _ _ _ hl (by rw [LX.out]; exact hk), LX.out]
      have f1 := HRW.out.f k (by rw [tl]; exact hlt)
      have o1 := HRW.out.c k (by rw [tl]; exact hlt)
      rw [offTo_at _ _ _ _ (by rw [LX.out]; exact hlt)] at o1
      have S1 := HRW.out.set_ (k := k) (by rw [tl]; exact hlt) (offAt gap fr sz k)
      rw [offTo_step _ _ _ _ hl (by rw [LX.out]; exact hlt)] at S1
      have e1 : endAt gap fr sz (k + 1) = fr.getD k 0 + endAt gap fr sz k + sz.getD k 0 + gap := rfl
      have e2 : offAt gap fr sz k = fr.getD k 0 + endAt gap fr sz k := rfl
      rw [e2] at S1
      have S1 := Lib.hid S1; have E1 := Lib.hid e1
      have b1 := FB.out k
      have b2 := EB.out k
      have b3 := SD.out k
      have k0 : (0 : Int) ≤ (k : Int) := by omega
      have k1 : (k : Int) < (n : Int) := by omega
      have k8 : (k : Int) ≤ 8 := by omega
      clear hc hl tl e1 e2
      generalize fr.getD k 0 = u at *
      generalize endAt gap fr sz k = v at *
      generalize sz.getD k 0 = z at *
      go_wp2
      go_roundw
      case rel => exact ⟨k + 1, by omega, by go_num, by rw [E1.out], S1, Lib.hid (HN.out.setCell hg2 _)⟩
      case measure => simp [intOf]; omega
    · obtain rfl : k = n := by omega
      have hl : fr.length = sz.length := FL.out.trans LX.out.symm
      have RR : Hid (Row wr g (offsL gap fr sz)) := Lib.hid (by have h := HRW.out; rw [← LX.out, offTo_all _ _ _ hl] at h; exact h)
      go_wp2
      go_ret
      exact Ans.row rfl ((offsL_len _ _ _).trans LX.out) hg2 RR.out HN.out
theorem ofOk_iff {sz : List Int} {space gap j : Int} : ofOk sz space gap j = true ↔ rowB 10000 sz = true ∧ (0 ≤ space ∧ space ≤ 200000) ∧ (0 ≤ gap ∧ gap ≤ 50) ∧ (0 ≤ j ∧ j ≤ 3) := by
  unfold ofOk
  rw [Bool.and_eq_true, Bool.and_eq_true, Bool.and_eq_true, decide_eq_true_eq, decide_eq_true_eq, decide_eq_true_eq]
  constructor
  · rintro ⟨⟨⟨h1, h2⟩, h3⟩, h4⟩; exact ⟨h1, h2, h3, h4⟩
  · rintro ⟨h1, h2, h3, h4⟩; exact ⟨⟨⟨h1, h2⟩, h3⟩, h4⟩
set_option maxRecDepth 100000 in
set_option maxHeartbeats 4000000 in
theorem OffsetsOf_no (A : Option Addr) (n c : Nat) (sz : List Int) (space gap j : Int) (hn : n ≤ 1048576) (h : ofOk sz space gap j = false) (w : World) (hx : Ints w A n sz) :
    Calls Try.prog 146 #[.slice A n c, .int .i64 space, .int .i64 gap, .int .i64 j] w (Ans w []) := by
  have HX := Lib.hid hx; have HH := Lib.hid h
  clear hx h
  cases hr : rowB 10000 sz
  · have HR := Lib.hid hr
    clear hr
    go_enter Try.func146, Try.ntmps146
    go_wp2_with (go_at_call 100; refine (validRow_any A n c sz _ hn _ (HX.out.new (by (repeat (first | exact New.refl _ | assumption | refine New.alloc ?_ _ | refine New.drew ?_ | refine New.drewN ?_ _ | refine New.setCell ?_ (by first | omega | (simp; omega) | (simp; done)) _ | refine New.trans ?_ (by assumption)))))).mono ?_; rw [HR.out]; rintro e w' ⟨rfl, rfl⟩)
    go_ret
    exact Ans.none_ rfl (by (repeat (first | exact New.refl _ | assumption | refine New.alloc ?_ _ | refine New.drew ?_ | refine New.drewN ?_ _ | refine New.setCell ?_ (by first | omega | (simp; omega) | (simp; done)) _ | refine New.trans ?_ (by assumption))))
  · have HR := Lib.hid hr
    cases d1 : decide (0 ≤ space ∧ space ≤ 200000)
    · clear hr
      go_enter Try.func146, Try.ntmps146
      go_wp2_with (first
        | (go_at_call 100; refine (validRow_any A n c sz _ hn _ (HX.out.new (by (repeat (first | exact New.refl _ | assumption | refine New.alloc ?_ _ | refine New.drew ?_ | refine New.drewN ?_ _ | refine New.setCell ?_ (by first | omega | (simp; omega) | (simp; done)) _ | refine New.trans ?_ (by assumption)))))).mono ?_; rw [HR.out]; rintro e w' ⟨rfl, rfl⟩)
        | (go_at_call_of 39 space; refine (within_any _ _ _ _).mono ?_; rw [d1]; rintro e w' ⟨rfl, rfl⟩))
      go_ret
      exact Ans.none_ rfl (by (repeat (first | exact New.refl _ | assumption | refine New.alloc ?_ _ | refine New.drew ?_ | refine New.drewN ?_ _ | refine New.setCell ?_ (by first | omega | (simp; omega) | (simp; done)) _ | refine New.trans ?_ (by assumption))))
    · cases d2 : decide (0 ≤ gap ∧ gap ≤ 50)
      · clear hr
        go_enter Try.func146, Try.ntmps146
        go_wp2_with (first
          | (go_at_call 100; refine (validRow_any A n c sz _ hn _ (HX.out.new (by (repeat (first | exact New.refl _ | assumption | refine New.alloc ?_ _ | refine New.drew ?_ | refine New.drewN ?_ _ | refine New.setCell ?_ (by first | omega | (simp; omega) | (simp; done)) _ | refine New.trans ?_ (by assumption)))))).mono ?_; rw [HR.out]; rintro e w' ⟨rfl, rfl⟩)
          | (go_at_call_of 39 space; refine (within_any _ _ _ _).mono ?_; rw [d1]; rintro e w' ⟨rfl, rfl⟩)
          | (go_at_call_of 39 gap; refine (within_any _ _ _ _).mono ?_; rw [d2]; rintro e w' ⟨rfl, rfl⟩))
        go_ret
        exact Ans.none_ rfl (by (repeat (first | exact New.refl _ | assumption | refine New.alloc ?_ _ | refine New.drew ?_ | refine New.drewN ?_ _ | refine New.setCell ?_ (by first | omega | (simp; omega) | (simp; done)) _ | refine New.trans ?_ (by assumption))))
      · have d3 : decide (0 ≤ j ∧ j ≤ 3) = false := by
          cases d3 : decide (0 ≤ j ∧ j ≤ 3)
          · rfl
          · exfalso
            have h := HH.out
            unfold ofOk at h
            rw [hr, d1, d2, d3] at h
            simp at h
        clear hr
        go_enter Try.func146, Try.ntmps146
        go_wp2_with (first
          | (go_at_call 100; refine (validRow_any A n c sz _ hn _ (HX.out.new (by (repeat (first | exact New.refl _ | assumption | refine New.alloc ?_ _ | refine New.drew ?_ | refine New.drewN ?_ _ | refine New.setCell ?_ (by first | omega | (simp; omega) | (simp; done)) _ | refine New.trans ?_ (by assumption)))))).mono ?_; rw [HR.out]; rintro e w' ⟨rfl, rfl⟩)
          | (go_at_call_of 39 space; refine (within_any _ _ _ _).mono ?_; rw [d1]; rintro e w' ⟨rfl, rfl⟩)
          | (go_at_call_of 39 gap; refine (within_any _ _ _ _).mono ?_; rw [d2]; rintro e w' ⟨rfl, rfl⟩)
          | (go_at_call_of 39 j; refine (within_any _ _ _ _).mono ?_; rw [d3]; rintro e w' ⟨rfl, rfl⟩))
        go_ret
        exact Ans.none_ rfl (by (repeat (first | exact New.refl _ | assumption | refine New.alloc ?_ _ | refine New.drew ?_ | refine New.drewN ?_ _ | refine New.setCell ?_ (by first | omega | (simp; omega) | (simp; done)) _ | refine New.trans ?_ (by assumption))))
theorem OffsetsOf_ans (sz : List Int) (space gap j : Int) (B : Option Addr) (m d : Nat) (W : World) (hx : Ints W B m sz) (hm : m ≤ 1048576) :
    Calls Try.prog 146 #[.slice B m d, .int .i64 space, .int .i64 gap, .int .i64 j] W (Ans W (offsA sz space gap j)) := by
  unfold offsA
  cases h : ofOk sz space gap j
  · rw [if_neg (by decide)]
    exact OffsetsOf_no B m d sz space gap j hm h W hx
  · rw [if_pos rfl]
    obtain ⟨h1, h2, h3, h4⟩ := ofOk_iff.1 h
    exact OffsetsOf_yes B m d sz space gap j h1 h2 h3 h4 W hx
end Go.Proofs.Ytobnjagmakhgpaa

/- The reference's offsets and OffsetsOf, walked: they say where sizes begin as the plain function does. Condition: the sizes can be read. -/
namespace Go.Proofs.Ytobnjagmakhgpaa
open Go.RowKit

theorem offs_start (gap : Int) (fr sz : List Int) : offAt gap fr sz 0 = fr.getD 0 0 := by
  unfold offAt endAt
  omega
set_option maxRecDepth 100000 in
set_option maxHeartbeats 4000000 in
theorem soffs_end (A : Option Addr) (n c : Nat) (sz : List Int) (space gap : Int) (hr : rowB 10000 sz = true) (hs : 0 ≤ space ∧ space ≤ 200000) (hg : 0 ≤ gap ∧ gap ≤ 50) (w : World) (hx : Ints w A n sz) :
    Calls Try.prog 99 #[.slice A n c, .int .i64 space, .int .i64 gap, .int .i64 1] w (Ans w (offsL gap (frontL (leftA sz space gap) sz.length 1) sz)) := by
  have lx := hx.len
  obtain ⟨n1, n8⟩ := rowB_len hr
  have hsz : ∀ z ∈ sz, 0 ≤ z ∧ z ≤ 10000 := (rowB_iff.1 hr).2
  have hszd : ∀ i, 0 ≤ sz.getD i 0 ∧ sz.getD i 0 ≤ 10000 := fun i => getD_of_mem ⟨by omega, by omega⟩ hsz i
  have sml : Sml sz := fun z hz => by have := hsz z hz; omega
  have sb := sum_bd sml n
  rw [List.take_of_length_le (by omega)] at sb
  have s0 := sum_nonneg (xs := sz) fun z hz => (hsz z hz).1
  have pg := prod_gap (g := gap) (n := (n : Int) - 1) hg (by omega)
  have lb := leftA_bd sz space gap s0 hs (by rw [lx]; exact pg.1)
  have le : leftA sz space gap = mx 0 (space - sz.sum - gap * ((n : Int) - 1)) := by unfold leftA; rw [lx]
  rw [lx]
  have fl := frontL_len (leftA sz space gap) n 1 lb (by omega)
  have fb := frontL_bd (leftA sz space gap) n 1 lb (by omega)
  have eb := end_bd gap (frontL (leftA sz space gap) n 1) sz hg fb hszd
  have HX := Lib.hid hx; have LX := Lib.hid lx; have HS := Lib.hid sml; have LB := Lib.hid lb
  have FB := Lib.hid fb; have EB := Lib.hid eb; have SD := Lib.hid hszd
  have lb1 := lb.1; have lb2 := lb.2
  have i1 : (1 : Int) ≤ (n : Int) := by omega
  have i8 : (n : Int) ≤ 8 := by omega
  have LE := Lib.hid le
  obtain ⟨hs0, hs1⟩ := hs
  obtain ⟨hg0, hg1⟩ := hg
  obtain ⟨pg0, pg1⟩ := pg
  have hmx := fun (W : World) (ts : Array TypeId) (t : TypeId) => (run_mx Try.prog W ts t 0 (space - sz.sum - gap * ((n : Int) - 1))).trans (by rw [← LE.out])
  have hmk := fun W => run_make_row' (P := Try.prog) 31 3 (.int .i64 0) 8 Try.underlying31 (by kernel_rfl) rfl .i64 .i64 n (by omega) (by omega) W
  have ZR : ∀ W : World, Ints (W.alloc (.cells (madeCells #[.int .i64 0] n) 3)) (some ⟨W.heap.size, 0, none⟩) n (List.replicate n 0) := fun W => by
    have h := (Row.made W n 3).ints
    rw [List.length_replicate] at h
    exact h
  have ZH := Lib.hid ZR
  clear hx lx hr hsz hszd sml fl fb eb ZR
  generalize hL : leftA sz space gap = L at *
  clear hL le
  have FR : Value.int .i64 (L) = .int .i64 (offAt gap (frontL L n 1) sz 0) := by
    rw [offs_start]
    unfold frontL
    rw [if_pos rfl]
    rw [getD_set _ _ _ _ (by simp; omega), if_pos rfl]
  have AT : ∀ k, k < n → (List.replicate n (0 : Int)).getD k 0 = (frontL L n 1).getD (k + 1) 0 := fun k hk => by
    unfold frontL
    rw [if_pos rfl]
    by_cases h : k + 1 < n
    · rw [getD_set _ _ _ _ (by simpa using h), if_neg (by omega), zero_at, zero_at]
    · rw [zero_at, List.getD_eq_getElem?_getD, List.getElem?_eq_none (by simp; omega)]
      rfl
  replace FR := Lib.hid FR; replace AT := Lib.hid AT
  go_enter Try.func99, Try.ntmps99
  go_wp2_with (go_at_call 108; refine (ssum_any A n c sz (by omega) _ (HX.out.new (by (repeat (first | exact New.refl _ | assumption | refine New.alloc ?_ _ | refine New.drew ?_ | refine New.drewN ?_ _ | refine New.setCell ?_ (by first | omega | (simp; omega) | (simp; done)) _ | refine New.trans ?_ (by assumption))))) HS.out).mono ?_; rintro e w' ⟨rfl, rfl⟩)
  have NT : New w ((w.alloc (.cells #[] 3)).alloc (.cells (madeCells #[.int .i64 0] n) 3)) := by (repeat (first | exact New.refl _ | assumption | refine New.alloc ?_ _ | refine New.drew ?_ | refine New.drewN ?_ _ | refine New.setCell ?_ (by first | omega | (simp; omega) | (simp; done)) _ | refine New.trans ?_ (by assumption)))
  have OT : Own w.heap.size ((w.alloc (.cells #[] 3)).alloc (.cells (madeCells #[.int .i64 0] n) 3)) (.slice (some ⟨w.heap.size, 0, none⟩) 0 0) (List.take 0 (offsL gap (frontL L n 1) sz)) := (Own.empty w 0 (Nat.le_refl _) rfl).alloc _
  have MT := ZH.out (w.alloc (.cells #[] 3))
  have SP : (Value.slice (some ⟨w.heap.size, 0, none⟩) 0 0).ownBlock ≠ some (w.alloc (.cells #[] 3)).heap.size := by simp [Value.ownBlock]
  clear hmk hmx pg0 pg1 sb s0 LE
  generalize (w.alloc (.cells #[] 3)).alloc (.cells (madeCells #[.int .i64 0] n) 3) = W0 at *
  have SP : (Value.slice (some ⟨w.heap.size, 0, none⟩) 0 0).ownBlock ≠ some (⟨w.heap.size + 1, 0, none⟩ : Addr).block := by simp [Value.ownBlock]
  have MT : Ints W0 (some ⟨w.heap.size + 1, 0, none⟩) n (List.replicate n 0) := by simpa using MT
  generalize frontL L n 1 = fr at *
  obtain ⟨BM, hBM⟩ : ∃ BM : Addr, BM = ⟨w.heap.size + 1, 0, none⟩ := ⟨_, rfl⟩
  rw [← hBM] at SP MT
  rw [← hBM]
  obtain ⟨more, hmore⟩ : ∃ more, more = List.replicate n (0 : Int) := ⟨_, rfl⟩
  rw [← hmore] at MT AT
  clear hBM hmore
  have OT := Lib.hid OT; have MT := Lib.hid MT; have NT := Lib.hid NT; have SP := Lib.hid SP
  go_loopw [9, 12, 15] (fun v t i wr => ∃ k : Nat, k ≤ n ∧ i = .int .i64 k ∧ t = .int .i64 (offAt gap fr sz k) ∧ Hid (Own w.heap.size wr v ((offsL gap fr sz).take k)) ∧ Hid (New w wr) ∧ Hid (Ints wr (some BM) n more) ∧ Hid (v.ownBlock ≠ some BM.block)) (fun _ _ i _ => n - (intOf i).toNat)
  case atStart => exact ⟨0, Nat.zero_le _, rfl, FR.out, OT, NT, MT, SP⟩
  case round =>
    obtain ⟨k, hk, rfl, rfl, HO, HN, HM, HP⟩ := hrel
    by_cases hlt : k < n
    · obtain ⟨b, off, rfl, hb, hc⟩ := HX.out.at_ (by omega)
      obtain ⟨b', off', e', hb', hc'⟩ := HM.out.at_ (by omega)
      obtain rfl := Option.some.inj e'
      have C3 := Lib.hid (fun (W : World) (h : Ints W (some ⟨b, off, none⟩) n sz) => h.cell_ hlt)
      have C4 := Lib.hid (fun (W : World) (h : Ints W (some ⟨b', off', none⟩) n more) => h.cell_ hlt)
      have am := AT.out k hlt
      have sx := offAt_succ gap fr sz k
      have tk : (offsL gap fr sz).take (k + 1) = (offsL gap fr sz).take k ++ [offAt gap fr sz k] := by rw [take_snoc_i (by rw [offsL_len, LX.out]; exact hlt), offsL_at _ _ _ _ (by rw [LX.out]; exact hlt)]
      have tl : ((offsL gap fr sz).take k).length = k := by rw [List.length_take, offsL_len, LX.out]; omega
      have TK := Lib.hid tk; have TL := Lib.hid tl
      have b1 := FB.out k
      have b2 := EB.out k
      have b3 := SD.out k
      have b4 := FB.out (k + 1)
      have bo : 0 ≤ offAt gap fr sz k ∧ offAt gap fr sz k ≤ 10000000 := by unfold offAt; omega
      rw [← am] at sx b4
      have SX := Lib.hid sx
      have k0 : (0 : Int) ≤ (k : Int) := by omega
      have k1 : (k : Int) < (n : Int) := by omega
      have sz1 := HN.out.le
      clear hc hc' tk tl am sx b1 b2 e'
      generalize offAt gap fr sz k = u at *
      generalize more.getD k 0 = q at *
      generalize sz.getD k 0 = z at *
      go_wp2_with (at_builtin; refine wp_app2 rfl _ _ rfl w.heap.size _ _ rfl (HO.out.alloc _) wr.heap.size u rfl (Ints.one wr _ _) (by rw [TL.out]; omega) (by simp; omega) ?_; intro v6 w6 O6 G6 B6)
      have N6 := Lib.hid (new_own (HN.out.alloc _) G6 (HO.out.alloc _) (Nat.le_refl _))
      have M6 := Lib.hid ((HM.out.new ((New.refl _).alloc _)).keep G6 (fun b off e h => HP.out (h.trans (congrArg (fun (a : Addr) => some a.block) (Option.some.inj e)).symm)))
      have P6 : Hid (v6.ownBlock ≠ some b') := Lib.hid (by
        rcases B6 with h | h
        · rw [h]; exact HP.out
        · rw [h]; intro e; have := Option.some.inj e; simp at this; omega)
      replace O6 := Lib.hid O6
      clear G6 B6
      have g3 := C3.out w6 (HX.out.new N6.out)
      have g4 := C4.out w6 M6.out
      go_wp2
      go_quiet (fail)
      go_wp2
      go_roundw
      case rel => exact ⟨k + 1, by omega, by go_num, by rw [SX.out], Lib.hid (by rw [TK.out]; exact O6.out), Lib.hid (N6.out.drewN nq), Lib.hid (M6.out.drewN nq), P6⟩
      case measure => simp [intOf]; omega
    · obtain rfl : k = n := by omega
      have RR := HO.out
      rw [List.take_of_length_le (by rw [offsL_len, LX.out]; exact Nat.le_refl _)] at RR
      obtain ⟨B9, c9, rfl, _, Z9⟩ := RR.res
      go_wp2
      go_ret
      exact ⟨B9, _, c9, rfl, rfl, Z9, HN.out⟩
set_option maxRecDepth 100000 in
set_option maxHeartbeats 4000000 in
theorem soffs_mid (A : Option Addr) (n c : Nat) (sz : List Int) (space gap : Int) (hr : rowB 10000 sz = true) (hs : 0 ≤ space ∧ space ≤ 200000) (hg : 0 ≤ gap ∧ gap ≤ 50) (w : World) (hx : Ints w A n sz) :
    Calls Try.prog 99 #[.slice A n c, .int .i64 space, .int .i64 gap, .int .i64 2] w (Ans w (offsL gap (frontL (leftA sz space gap) sz.length 2) sz)) := by
  have lx := hx.len
  obtain ⟨n1, n8⟩ := rowB_len hr
  have hsz : ∀ z ∈ sz, 0 ≤ z ∧ z ≤ 10000 := (rowB_iff.1 hr).2
  have hszd : ∀ i, 0 ≤ sz.getD i 0 ∧ sz.getD i 0 ≤ 10000 := fun i => getD_of_mem ⟨by omega, by omega⟩ hsz i
  have sml : Sml sz := fun z hz => by have := hsz z hz; omega
  have sb := sum_bd sml n
  rw [List.take_of_length_le (by omega)] at sb
  have s0 := sum_nonneg (xs := sz) fun z hz => (hsz z hz).1
  have pg := prod_gap (g := gap) (n := (n : Int) - 1) hg (by omega)
  have lb := leftA_bd sz space gap s0 hs (by rw [lx]; exact pg.1)
  have le : leftA sz space gap = mx 0 (space - sz.sum - gap * ((n : Int) - 1)) := by unfold leftA; rw [lx]
  rw [lx]
  have fl := frontL_len (leftA sz space gap) n 2 lb (by omega)
  have fb := frontL_bd (leftA sz space gap) n 2 lb (by omega)
  have eb := end_bd gap (frontL (leftA sz space gap) n 2) sz hg fb hszd
  have HX := Lib.hid hx; have LX := Lib.hid lx; have HS := Lib.hid sml; have LB := Lib.hid lb
  have FB := Lib.hid fb; have EB := Lib.hid eb; have SD := Lib.hid hszd
  have lb1 := lb.1; have lb2 := lb.2
  have i1 : (1 : Int) ≤ (n : Int) := by omega
  have i8 : (n : Int) ≤ 8 := by omega
  have LE := Lib.hid le
  obtain ⟨hs0, hs1⟩ := hs
  obtain ⟨hg0, hg1⟩ := hg
  obtain ⟨pg0, pg1⟩ := pg
  have hmx := fun (W : World) (ts : Array TypeId) (t : TypeId) => (run_mx Try.prog W ts t 0 (space - sz.sum - gap * ((n : Int) - 1))).trans (by rw [← LE.out])
  have hmk := fun W => run_make_row' (P := Try.prog) 31 3 (.int .i64 0) 8 Try.underlying31 (by kernel_rfl) rfl .i64 .i64 n (by omega) (by omega) W
  have ZR : ∀ W : World, Ints (W.alloc (.cells (madeCells #[.int .i64 0] n) 3)) (some ⟨W.heap.size, 0, none⟩) n (List.replicate n 0) := fun W => by
    have h := (Row.made W n 3).ints
    rw [List.length_replicate] at h
    exact h
  have ZH := Lib.hid ZR
  clear hx lx hr hsz hszd sml fl fb eb ZR
  generalize hL : leftA sz space gap = L at *
  clear hL le
  have FR : Value.int .i64 (L / 2) = .int .i64 (offAt gap (frontL L n 2) sz 0) := by
    rw [offs_start]
    unfold frontL
    rw [if_neg (by omega), if_pos rfl]
    rw [getD_set _ _ _ _ (by simp; omega), if_pos rfl]
  have AT : ∀ k, k < n → (List.replicate n (0 : Int)).getD k 0 = (frontL L n 2).getD (k + 1) 0 := fun k hk => by
    unfold frontL
    rw [if_neg (by omega), if_pos rfl]
    by_cases h : k + 1 < n
    · rw [getD_set _ _ _ _ (by simpa using h), if_neg (by omega), zero_at, zero_at]
    · rw [zero_at, List.getD_eq_getElem?_getD, List.getElem?_eq_none (by simp; omega)]
      rfl
  replace FR := Lib.hid FR; replace AT := Lib.hid AT
  go_enter Try.func99, Try.ntmps99
  go_wp2_with (go_at_call 108; refine (ssum_any A n c sz (by omega) _ (HX.out.new (by (repeat (first | exact New.refl _ | assumption | refine New.alloc ?_ _ | refine New.drew ?_ | refine New.drewN ?_ _ | refine New.setCell ?_ (by first | omega | (simp; omega) | (simp; done)) _ | refine New.trans ?_ (by assumption))))) HS.out).mono ?_; rintro e w' ⟨rfl, rfl⟩)
  have NT : New w ((w.alloc (.cells #[] 3)).alloc (.cells (madeCells #[.int .i64 0] n) 3)) := by (repeat (first | exact New.refl _ | assumption | refine New.alloc ?_ _ | refine New.drew ?_ | refine New.drewN ?_ _ | refine New.setCell ?_ (by first | omega | (simp; omega) | (simp; done)) _ | refine New.trans ?_ (by assumption)))
  have OT : Own w.heap.size ((w.alloc (.cells #[] 3)).alloc (.cells (madeCells #[.int .i64 0] n) 3)) (.slice (some ⟨w.heap.size, 0, none⟩) 0 0) (List.take 0 (offsL gap (frontL L n 2) sz)) := (Own.empty w 0 (Nat.le_refl _) rfl).alloc _
  have MT := ZH.out (w.alloc (.cells #[] 3))
  have SP : (Value.slice (some ⟨w.heap.size, 0, none⟩) 0 0).ownBlock ≠ some (w.alloc (.cells #[] 3)).heap.size := by simp [Value.ownBlock]
  clear hmk hmx pg0 pg1 sb s0 LE
  generalize (w.alloc (.cells #[] 3)).alloc (.cells (madeCells #[.int .i64 0] n) 3) = W0 at *
  have SP : (Value.slice (some ⟨w.heap.size, 0, none⟩) 0 0).ownBlock ≠ some (⟨w.heap.size + 1, 0, none⟩ : Addr).block := by simp [Value.ownBlock]
  have MT : Ints W0 (some ⟨w.heap.size + 1, 0, none⟩) n (List.replicate n 0) := by simpa using MT
  generalize frontL L n 2 = fr at *
  obtain ⟨BM, hBM⟩ : ∃ BM : Addr, BM = ⟨w.heap.size + 1, 0, none⟩ := ⟨_, rfl⟩
  rw [← hBM] at SP MT
  rw [← hBM]
  obtain ⟨more, hmore⟩ : ∃ more, more = List.replicate n (0 : Int) := ⟨_, rfl⟩
  rw [← hmore] at MT AT
  clear hBM hmore
  have OT := Lib.hid OT; have MT := Lib.hid MT; have NT := Lib.hid NT; have SP := Lib.hid SP
  go_loopw [9, 12, 15] (fun v t i wr => ∃ k : Nat, k ≤ n ∧ i = .int .i64 k ∧ t = .int .i64 (offAt gap fr sz k) ∧ Hid (Own w.heap.size wr v ((offsL gap fr sz).take k)) ∧ Hid (New w wr) ∧ Hid (Ints wr (some BM) n more) ∧ Hid (v.ownBlock ≠ some BM.block)) (fun _ _ i _ => n - (intOf i).toNat)
  case atStart => exact ⟨0, Nat.zero_le _, rfl, FR.out, OT, NT, MT, SP⟩
  case round =>
    obtain ⟨k, hk, rfl, rfl, HO, HN, HM, HP⟩ := hrel
    by_cases hlt : k < n
    · obtain ⟨b, off, rfl, hb, hc⟩ := HX.out.at_ (by omega)
      obtain ⟨b', off', e', hb', hc'⟩ := HM.out.at_ (by omega)
      obtain rfl := Option.some.inj e'
      have C3 := Lib.hid (fun (W : World) (h : Ints W (some ⟨b, off, none⟩) n sz) => h.cell_ hlt)
      have C4 := Lib.hid (fun (W : World) (h : Ints W (some ⟨b', off', none⟩) n more) => h.cell_ hlt)
      have am := AT.out k hlt
      have sx := offAt_succ gap fr sz k
      have tk : (offsL gap fr sz).take (k + 1) = (offsL gap fr sz).take k ++ [offAt gap fr sz k] := by rw [take_snoc_i (by rw [offsL_len, LX.out]; exact hlt), offsL_at _ _ _ _ (by rw [LX.out]; exact hlt)]
      have tl : ((offsL gap fr sz).take k).length = k := by rw [List.length_take, offsL_len, LX.out]; omega
      have TK := Lib.hid tk; have TL := Lib.hid tl
      have b1 := FB.out k
      have b2 := EB.out k
      have b3 := SD.out k
      have b4 := FB.out (k + 1)
      have bo : 0 ≤ offAt gap fr sz k ∧ offAt gap fr sz k ≤ 10000000 := by unfold offAt; omega
      rw [← am] at sx b4
      have SX := Lib.hid sx
      have k0 : (0 : Int) ≤ (k : Int) := by omega
      have k1 : (k : Int) < (n : Int) := by omega
      have sz1 := HN.out.le
      clear hc hc' tk tl am sx b1 b2 e'
      generalize offAt gap fr sz k = u at *
      generalize more.getD k 0 = q at *
      generalize sz.getD k 0 = z at *
      go_wp2_with (at_builtin; refine wp_app2 rfl _ _ rfl w.heap.size _ _ rfl (HO.out.alloc _) wr.heap.size u rfl (Ints.one wr _ _) (by rw [TL.out]; omega) (by simp; omega) ?_; intro v6 w6 O6 G6 B6)
      have N6 := Lib.hid (new_own (HN.out.alloc _) G6 (HO.out.alloc _) (Nat.le_refl _))
      have M6 := Lib.hid ((HM.out.new ((New.refl _).alloc _)).keep G6 (fun b off e h => HP.out (h.trans (congrArg (fun (a : Addr) => some a.block) (Option.some.inj e)).symm)))
      have P6 : Hid (v6.ownBlock ≠ some b') := Lib.hid (by
        rcases B6 with h | h
        · rw [h]; exact HP.out
        · rw [h]; intro e; have := Option.some.inj e; simp at this; omega)
      replace O6 := Lib.hid O6
      clear G6 B6
      have g3 := C3.out w6 (HX.out.new N6.out)
      have g4 := C4.out w6 M6.out
      go_wp2
      go_quiet (fail)
      go_wp2
      go_roundw
      case rel => exact ⟨k + 1, by omega, by go_num, by rw [SX.out], Lib.hid (by rw [TK.out]; exact O6.out), Lib.hid (N6.out.drewN nq), Lib.hid (M6.out.drewN nq), P6⟩
      case measure => simp [intOf]; omega
    · obtain rfl : k = n := by omega
      have RR := HO.out
      rw [List.take_of_length_le (by rw [offsL_len, LX.out]; exact Nat.le_refl _)] at RR
      obtain ⟨B9, c9, rfl, _, Z9⟩ := RR.res
      go_wp2
      go_ret
      exact ⟨B9, _, c9, rfl, rfl, Z9, HN.out⟩
set_option maxRecDepth 100000 in
set_option maxHeartbeats 4000000 in
theorem soffs_start (A : Option Addr) (n c : Nat) (sz : List Int) (space gap : Int) (j : Int) (hj : j ≠ 1 ∧ j ≠ 2 ∧ (j = 3 → sz.length ≤ 1)) (hr : rowB 10000 sz = true) (hs : 0 ≤ space ∧ space ≤ 200000) (hg : 0 ≤ gap ∧ gap ≤ 50) (w : World) (hx : Ints w A n sz) :
    Calls Try.prog 99 #[.slice A n c, .int .i64 space, .int .i64 gap, .int .i64 j] w (Ans w (offsL gap (frontL (leftA sz space gap) sz.length j) sz)) := by
  have lx := hx.len
  obtain ⟨n1, n8⟩ := rowB_len hr
  have hsz : ∀ z ∈ sz, 0 ≤ z ∧ z ≤ 10000 := (rowB_iff.1 hr).2
  have hszd : ∀ i, 0 ≤ sz.getD i 0 ∧ sz.getD i 0 ≤ 10000 := fun i => getD_of_mem ⟨by omega, by omega⟩ hsz i
  have sml : Sml sz := fun z hz => by have := hsz z hz; omega
  have sb := sum_bd sml n
  rw [List.take_of_length_le (by omega)] at sb
  have s0 := sum_nonneg (xs := sz) fun z hz => (hsz z hz).1
  have pg := prod_gap (g := gap) (n := (n : Int) - 1) hg (by omega)
  have lb := leftA_bd sz space gap s0 hs (by rw [lx]; exact pg.1)
  have le : leftA sz space gap = mx 0 (space - sz.sum - gap * ((n : Int) - 1)) := by unfold leftA; rw [lx]
  rw [lx]
  have fl := frontL_len (leftA sz space gap) n j lb (by omega)
  have fb := frontL_bd (leftA sz space gap) n j lb (by omega)
  have eb := end_bd gap (frontL (leftA sz space gap) n j) sz hg fb hszd
  have HX := Lib.hid hx; have LX := Lib.hid lx; have HS := Lib.hid sml; have LB := Lib.hid lb
  have FB := Lib.hid fb; have EB := Lib.hid eb; have SD := Lib.hid hszd
  have lb1 := lb.1; have lb2 := lb.2
  have i1 : (1 : Int) ≤ (n : Int) := by omega
  have i8 : (n : Int) ≤ 8 := by omega
  have LE := Lib.hid le
  obtain ⟨hs0, hs1⟩ := hs
  obtain ⟨hg0, hg1⟩ := hg
  obtain ⟨pg0, pg1⟩ := pg
  have hmx := fun (W : World) (ts : Array TypeId) (t : TypeId) => (run_mx Try.prog W ts t 0 (space - sz.sum - gap * ((n : Int) - 1))).trans (by rw [← LE.out])
  have hmk := fun W => run_make_row' (P := Try.prog) 31 3 (.int .i64 0) 8 Try.underlying31 (by kernel_rfl) rfl .i64 .i64 n (by omega) (by omega) W
  have ZR : ∀ W : World, Ints (W.alloc (.cells (madeCells #[.int .i64 0] n) 3)) (some ⟨W.heap.size, 0, none⟩) n (List.replicate n 0) := fun W => by
    have h := (Row.made W n 3).ints
    rw [List.length_replicate] at h
    exact h
  have ZH := Lib.hid ZR
  clear hx lx hr hsz hszd sml fl fb eb ZR
  generalize hL : leftA sz space gap = L at *
  clear hL le
  have FR : Value.int .i64 0 = .int .i64 (offAt gap (frontL L n j) sz 0) := by
    rw [offs_start]
    by_cases h3 : j = 3
    · subst h3
      rw [frontL_three L n LB.out (by omega)]
      rfl
    · unfold frontL
      rw [if_neg hj.1, if_neg hj.2.1, if_neg h3, zero_at]
  have AT : ∀ k, k < n → (List.replicate n (0 : Int)).getD k 0 = (frontL L n j).getD (k + 1) 0 := fun k hk => by
    by_cases h3 : j = 3
    · subst h3
      rw [frontL_three L n LB.out (by omega)]
      obtain rfl : n = 1 := by have h1 := hj.2.2 rfl; have h2 := LX.out; omega
      have e := shareA_ones L 1 LB.out (by omega)
      have e2 : shareA L (onesL (1 - 1)) = [] := List.eq_nil_of_length_eq_zero e
      rw [e2, zero_at]
      simp
    · unfold frontL
      rw [if_neg hj.1, if_neg hj.2.1, if_neg h3, zero_at, zero_at]
  have j1 : (j == 1) = false := by simpa using hj.1
  have j2 : (j == 2) = false := by simpa using hj.2.1
  have jj : (j == 3) = false ∨ ((j == 3) = true ∧ (n : Int) ≤ 1) := by
    by_cases h3 : j = 3
    · exact .inr ⟨by simpa using h3, by have h1 := hj.2.2 h3; have h2 := LX.out; omega⟩
    · exact .inl (by simpa using h3)
  clear hj
  rcases jj with j3 | ⟨j3, hle⟩
  all_goals
    replace FR := Lib.hid FR; replace AT := Lib.hid AT
    go_enter Try.func99, Try.ntmps99
    go_wp2_with (go_at_call 108; refine (ssum_any A n c sz (by omega) _ (HX.out.new (by (repeat (first | exact New.refl _ | assumption | refine New.alloc ?_ _ | refine New.drew ?_ | refine New.drewN ?_ _ | refine New.setCell ?_ (by first | omega | (simp; omega) | (simp; done)) _ | refine New.trans ?_ (by assumption))))) HS.out).mono ?_; rintro e w' ⟨rfl, rfl⟩)
    have NT : New w ((w.alloc (.cells #[] 3)).alloc (.cells (madeCells #[.int .i64 0] n) 3)) := by (repeat (first | exact New.refl _ | assumption | refine New.alloc ?_ _ | refine New.drew ?_ | refine New.drewN ?_ _ | refine New.setCell ?_ (by first | omega | (simp; omega) | (simp; done)) _ | refine New.trans ?_ (by assumption)))
    have OT : Own w.heap.size ((w.alloc (.cells #[] 3)).alloc (.cells (madeCells #[.int .i64 0] n) 3)) (.slice (some ⟨w.heap.size, 0, none⟩) 0 0) (List.take 0 (offsL gap (frontL L n j) sz)) := (Own.empty w 0 (Nat.le_refl _) rfl).alloc _
    have MT := ZH.out (w.alloc (.cells #[] 3))
    have SP : (Value.slice (some ⟨w.heap.size, 0, none⟩) 0 0).ownBlock ≠ some (w.alloc (.cells #[] 3)).heap.size := by simp [Value.ownBlock]
    clear hmk hmx pg0 pg1 sb s0 LE
    generalize (w.alloc (.cells #[] 3)).alloc (.cells (madeCells #[.int .i64 0] n) 3) = W0 at *
    have SP : (Value.slice (some ⟨w.heap.size, 0, none⟩) 0 0).ownBlock ≠ some (⟨w.heap.size + 1, 0, none⟩ : Addr).block := by simp [Value.ownBlock]
    have MT : Ints W0 (some ⟨w.heap.size + 1, 0, none⟩) n (List.replicate n 0) := by simpa using MT
    generalize frontL L n j = fr at *
    obtain ⟨BM, hBM⟩ : ∃ BM : Addr, BM = ⟨w.heap.size + 1, 0, none⟩ := ⟨_, rfl⟩
    rw [← hBM] at SP MT
    rw [← hBM]
    obtain ⟨more, hmore⟩ : ∃ more, more = List.replicate n (0 : Int) := ⟨_, rfl⟩
    rw [← hmore] at MT AT
    clear hBM hmore
    have OT := Lib.hid OT; have MT := Lib.hid MT; have NT := Lib.hid NT; have SP := Lib.hid SP
    go_loopw [9, 12, 15] (fun v t i wr => ∃ k : Nat, k ≤ n ∧ i = .int .i64 k ∧ t = .int .i64 (offAt gap fr sz k) ∧ Hid (Own w.heap.size wr v ((offsL gap fr sz).take k)) ∧ Hid (New w wr) ∧ Hid (Ints wr (some BM) n more) ∧ Hid (v.ownBlock ≠ some BM.block)) (fun _ _ i _ => n - (intOf i).toNat)
    case atStart => exact ⟨0, Nat.zero_le _, rfl, FR.out, OT, NT, MT, SP⟩
    case round =>
      obtain ⟨k, hk, rfl, rfl, HO, HN, HM, HP⟩ := hrel
      by_cases hlt : k < n
      · obtain ⟨b, off, rfl, hb, hc⟩ := HX.out.at_ (by omega)
        obtain ⟨b', off', e', hb', hc'⟩ := HM.out.at_ (by omega)
        obtain rfl := Option.some.inj e'
        have C3 := Lib.hid (fun (W : World) (h : Ints W (some ⟨b, off, none⟩) n sz) => h.cell_ hlt)
        have C4 := Lib.hid (fun (W : World) (h : Ints W (some ⟨b', off', none⟩) n more) => h.cell_ hlt)
        have am := AT.out k hlt
        have sx := offAt_succ gap fr sz k
        have tk : (offsL gap fr sz).take (k + 1) = (offsL gap fr sz).take k ++ [offAt gap fr sz k] := by rw [take_snoc_i (by rw [offsL_len, LX.out]; exact hlt), offsL_at _ _ _ _ (by rw [LX.out]; exact hlt)]
        have tl : ((offsL gap fr sz).take k).length = k := by rw [List.length_take, offsL_len, LX.out]; omega
        have TK := Lib.hid tk; have TL := Lib.hid tl
        have b1 := FB.out k
        have b2 := EB.out k
        have b3 := SD.out k
        have b4 := FB.out (k + 1)
        have bo : 0 ≤ offAt gap fr sz k ∧ offAt gap fr sz k ≤ 10000000 := by unfold offAt; omega
        rw [← am] at sx b4
        have SX := Lib.hid sx
        have k0 : (0 : Int) ≤ (k : Int) := by omega
        have k1 : (k : Int) < (n : Int) := by omega
        have sz1 := HN.out.le
        clear hc hc' tk tl am sx b1 b2 e'
        generalize offAt gap fr sz k = u at *
        generalize more.getD k 0 = q at *
        generalize sz.getD k 0 = z at *
        go_wp2_with (at_builtin; refine wp_app2 rfl _ _ rfl w.heap.size _ _ rfl (HO.out.alloc _) wr.heap.size u rfl (Ints.one wr _ _) (by rw [TL.out]; omega) (by simp; omega) ?_; intro v6 w6 O6 G6 B6)
        have N6 := Lib.hid (new_own (HN.out.alloc _) G6 (HO.out.alloc _) (Nat.le_refl _))
        have M6 := Lib.hid ((HM.out.new ((New.refl _).alloc _)).keep G6 (fun b off e h => HP.out (h.trans (congrArg (fun (a : Addr) => some a.block) (Option.some.inj e)).symm)))
        have P6 : Hid (v6.ownBlock ≠ some b') := Lib.hid (by
          rcases B6 with h | h
          · rw [h]; exact HP.out
          · rw [h]; intro e; have := Option.some.inj e; simp at this; omega)
        replace O6 := Lib.hid O6
        clear G6 B6
        have g3 := C3.out w6 (HX.out.new N6.out)
        have g4 := C4.out w6 M6.out
        go_wp2
        go_quiet (fail)
        go_wp2
        go_roundw
        case rel => exact ⟨k + 1, by omega, by go_num, by rw [SX.out], Lib.hid (by rw [TK.out]; exact O6.out), Lib.hid (N6.out.drewN nq), Lib.hid (M6.out.drewN nq), P6⟩
        case measure => simp [intOf]; omega
      · obtain rfl : k = n := by omega
        have RR := HO.out
        rw [List.take_of_length_le (by rw [offsL_len, LX.out]; exact Nat.le_refl _)] at RR
        obtain ⟨B9, c9, rfl, _, Z9⟩ := RR.res
        go_wp2
        go_ret
        exact ⟨B9, _, c9, rfl, rfl, Z9, HN.out⟩
set_option maxRecDepth 100000 in
set_option maxHeartbeats 4000000 in
theorem soffs_between (A : Option Addr) (n c : Nat) (sz : List Int) (space gap : Int) (h2 : 2 ≤ sz.length) (hr : rowB 10000 sz = true) (hs : 0 ≤ space ∧ space ≤ 200000) (hg : 0 ≤ gap ∧ gap ≤ 50) (w : World) (hx : Ints w A n sz) :
    Calls Try.prog 99 #[.slice A n c, .int .i64 space, .int .i64 gap, .int .i64 3] w (Ans w (offsL gap (frontL (leftA sz space gap) sz.length 3) sz)) := by
  have lx := hx.len
  obtain ⟨n1, n8⟩ := rowB_len hr
  have hsz : ∀ z ∈ sz, 0 ≤ z ∧ z ≤ 10000 := (rowB_iff.1 hr).2
  have hszd : ∀ i, 0 ≤ sz.getD i 0 ∧ sz.getD i 0 ≤ 10000 := fun i => getD_of_mem ⟨by omega, by omega⟩ hsz i
  have sml : Sml sz := fun z hz => by have := hsz z hz; omega
  have sb := sum_bd sml n
  rw [List.take_of_length_le (by omega)] at sb
  have s0 := sum_nonneg (xs := sz) fun z hz => (hsz z hz).1
  have pg := prod_gap (g := gap) (n := (n : Int) - 1) hg (by omega)
  have lb := leftA_bd sz space gap s0 hs (by rw [lx]; exact pg.1)
  have le : leftA sz space gap = mx 0 (space - sz.sum - gap * ((n : Int) - 1)) := by unfold leftA; rw [lx]
  rw [lx]
  have fl := frontL_len (leftA sz space gap) n 3 lb (by omega)
  have fb := frontL_bd (leftA sz space gap) n 3 lb (by omega)
  have eb := end_bd gap (frontL (leftA sz space gap) n 3) sz hg fb hszd
  have HX := Lib.hid hx; have LX := Lib.hid lx; have HS := Lib.hid sml; have LB := Lib.hid lb
  have FB := Lib.hid fb; have EB := Lib.hid eb; have SD := Lib.hid hszd
  have lb1 := lb.1; have lb2 := lb.2
  have i1 : (1 : Int) ≤ (n : Int) := by omega
  have i8 : (n : Int) ≤ 8 := by omega
  have LE := Lib.hid le
  obtain ⟨hs0, hs1⟩ := hs
  obtain ⟨hg0, hg1⟩ := hg
  obtain ⟨pg0, pg1⟩ := pg
  have hmx := fun (W : World) (ts : Array TypeId) (t : TypeId) => (run_mx Try.prog W ts t 0 (space - sz.sum - gap * ((n : Int) - 1))).trans (by rw [← LE.out])
  have hmk := fun W => run_make_row' (P := Try.prog) 31 3 (.int .i64 0) 8 Try.underlying31 (by kernel_rfl) rfl .i64 .i64 n (by omega) (by omega) W
  have ZR : ∀ W : World, Ints (W.alloc (.cells (madeCells #[.int .i64 0] n) 3)) (some ⟨W.heap.size, 0, none⟩) n (List.replicate n 0) := fun W => by
    have h := (Row.made W n 3).ints
    rw [List.length_replicate] at h
    exact h
  have ZH := Lib.hid ZR
  clear hx lx hr hsz hszd sml fl fb eb ZR
  generalize hL : leftA sz space gap = L at *
  clear hL le
  have n2 : 2 ≤ n := by have h3 := LX.out; omega
  have FR : Value.int .i64 0 = .int .i64 (offAt gap (frontL L n 3) sz 0) := by
    rw [offs_start, frontL_three L n LB.out (by omega)]
    rfl
  have ok : shOk L (onesL (n - 1)) = true := by
    unfold shOk
    rw [Bool.and_eq_true, decide_eq_true_eq]
    exact ⟨LB.out, rowB_iff.2 ⟨by rw [ones_len]; omega, ones_wts _⟩⟩
  have sl : (shareL L (onesL (n - 1))).length = n - 1 := (shareL_len _ _).trans (ones_len _)
  have AT : ∀ k, k < n → (shareL L (onesL (n - 1)) ++ [0]).getD k 0 = (frontL L n 3).getD (k + 1) 0 := fun k hk => by
    rw [frontL_three L n LB.out (by omega)]
    unfold shareA
    rw [if_pos ok, List.getD_cons_succ]
    by_cases h : k < n - 1
    · rw [List.getD_eq_getElem?_getD, List.getD_eq_getElem?_getD, List.getElem?_append_left (by omega)]
    · rw [List.getD_eq_getElem?_getD, List.getD_eq_getElem?_getD, List.getElem?_append_right (by omega), sl, show k - (n - 1) = 0 by omega, List.getElem?_eq_none (l := shareL L (onesL (n - 1))) (by omega)]
      rfl
  replace FR := Lib.hid FR; replace AT := Lib.hid AT; replace sl := Lib.hid sl
  have i2 : (2 : Int) ≤ (n : Int) := by omega
  have dn : decide ((1 : Int) < (n : Int)) = true := decide_eq_true (by omega)
  have W2 : New w ((w.alloc (.cells #[] 3)).alloc (.cells (madeCells #[.int .i64 0] n) 3)) := by (repeat (first | exact New.refl _ | assumption | refine New.alloc ?_ _ | refine New.drew ?_ | refine New.drewN ?_ _ | refine New.setCell ?_ (by first | omega | (simp; omega) | (simp; done)) _ | refine New.trans ?_ (by assumption)))
  have O2 : Own w.heap.size ((w.alloc (.cells #[] 3)).alloc (.cells (madeCells #[.int .i64 0] n) 3)) (.slice (some ⟨w.heap.size, 0, none⟩) 0 0) [] := (Own.empty w 0 (Nat.le_refl _) rfl).alloc _
  have l2 : w.heap.size + 2 = ((w.alloc (.cells #[] 3)).alloc (.cells (madeCells #[.int .i64 0] n) 3)).heap.size := by simp
  replace W2 := Lib.hid W2; replace O2 := Lib.hid O2; replace l2 := Lib.hid l2
  go_enter Try.func99, Try.ntmps99
  go_wp2_with (go_at_call 108; refine (ssum_any A n c sz (by omega) _ (HX.out.new (by (repeat (first | exact New.refl _ | assumption | refine New.alloc ?_ _ | refine New.drew ?_ | refine New.drewN ?_ _ | refine New.setCell ?_ (by first | omega | (simp; omega) | (simp; done)) _ | refine New.trans ?_ (by assumption))))) HS.out).mono ?_; rintro e w' ⟨rfl, rfl⟩)
  clear hmk hmx pg0 pg1 sb s0 LE
  generalize hW : (w.alloc (.cells #[] 3)).alloc (.cells (madeCells #[.int .i64 0] n) 3) = W2' at *
  clear hW
  have O3 : Hid (Own W2'.heap.size (W2'.alloc (.cells #[] 3)) (.slice (some ⟨w.heap.size + 1 + 1, 0, none⟩) 0 0) (onesL 0)) := Lib.hid (by rw [show w.heap.size + 1 + 1 = W2'.heap.size from l2.out]; exact Own.empty W2' 0 (Nat.le_refl _) rfl)
  have N3 : Hid (New W2' (W2'.alloc (.cells #[] 3))) := Lib.hid ((New.refl _).alloc _)
  go_loopw [13, 14] (fun v i wr => ∃ k : Nat, 1 ≤ k ∧ k ≤ n ∧ i = .int .i64 k ∧ Hid (Own W2'.heap.size wr v (onesL (k - 1))) ∧ Hid (New W2' wr)) (fun _ i _ => n - (intOf i).toNat)
  case atStart => exact ⟨1, Nat.le_refl _, by omega, rfl, O3, N3⟩
  case round =>
    obtain ⟨k, hk1, hk, rfl, HO, HN⟩ := hrel
    have sz1 := HN.out.le
    by_cases hlt : k < n
    · have k0 : (1 : Int) ≤ (k : Int) := by omega
      have k1 : (k : Int) < (n : Int) := by omega
      have OL := Lib.hid (ones_len (k - 1))
      go_wp2_with (at_builtin; refine wp_app rfl _ _ rfl W2'.heap.size _ _ rfl (HO.out.alloc _) (some ⟨wr.heap.size, 0, none⟩) 1 1 [1] rfl (Ints.one wr _ _) (by rw [OL.out]; omega) (by simp; omega) ?_; intro v6 w6 O6 G6)
      have N6 := Lib.hid (new_own (HN.out.alloc _) G6 (HO.out.alloc _) (Nat.le_refl _))
      replace O6 := Lib.hid O6
      clear G6
      go_wp2
      go_roundw
      case rel => exact ⟨k + 1, by omega, by omega, by go_num, Lib.hid (by
        have h := O6.out
        rw [show k + 1 - 1 = (k - 1) + 1 by omega]
        unfold onesL at h ⊢
        rw [List.replicate_succ']
        exact h), N6⟩
      case measure => simp [intOf]; omega
    · obtain rfl : n = k := by omega
      obtain ⟨B5, c5, rfl, _, Z5⟩ := HO.out.res
      rw [ones_len]
      have I5 := Lib.hid (Z5.ints (ones_len (n - 1)))
      clear Z5
      go_wp2_with fail
      refine (share_any B5 (n - 1) c5 L (onesL (n - 1)) (by omega) LB.out (ones_wts _) _ I5.out).mono ?_
      rintro e w7 ⟨g7, rfl, hg7, R7, N7⟩
      have I7 := R7.ints
      rw [sl.out] at I7
      replace I7 := Lib.hid I7; replace R7 := Lib.hid R7; replace N7 := Lib.hid (HN.out.trans N7)
      have sz7 := N7.out.le
      go_wp2_with (at_builtin; refine wp_grow rfl _ _ rfl g7 (n - 1) _ rfl (I7.out.new ((New.refl _).alloc _)) w7.heap.size 0 rfl (Ints.one w7 _ _) (by omega) ?_; intro v8 w8 O8 N8)
      obtain ⟨B8, c8, rfl, _, Z8⟩ := O8.res
      have len8 : (shareL L (onesL (n - 1)) ++ [0]).length = n := by simp [sl.out]; omega
      obtain ⟨g8, rfl, hg8, hg8', R8⟩ := Z8.2 (by omega)
      have MT := Z8.ints len8
      have NT : New w w8 := W2.out.trans (N7.out.trans (New.trans ((New.refl _).alloc _) N8))
      have OT : Own w.heap.size w8 (.slice (some ⟨w.heap.size, 0, none⟩) 0 0) (List.take 0 (offsL gap (frontL L n 3) sz)) := O2.out.new (N7.out.trans (New.trans ((New.refl _).alloc _) N8))
      have SP : (Value.slice (some ⟨w.heap.size, 0, none⟩) 0 0).ownBlock ≠ some (⟨g8, 0, none⟩ : Addr).block := by
        simp [Value.ownBlock]
        have := l2.out
        simp at hg8
        omega
      have SE : Hid (sz.length = n) := LX
      clear O8 Z8 R8 hg8 hg8' N8 R7 I7 N7 HO HN I5 O2 O3 N3 W2
      generalize frontL L n 3 = fr at *
      generalize hBM : (⟨g8, 0, none⟩ : Addr) = BM at *
      generalize hmore : shareL L (onesL (n - 1)) ++ [0] = more at *
      have LM : Hid (more.length = n) := Lib.hid len8
      clear hBM hmore
      rw [len8]
      clear len8
      have OT := Lib.hid OT; have MT := Lib.hid MT; have NT := Lib.hid NT; have SP := Lib.hid SP
      go_loopw [9, 12, 15] (fun v t i wr => ∃ k : Nat, k ≤ n ∧ i = .int .i64 k ∧ t = .int .i64 (offAt gap fr sz k) ∧ Hid (Own w.heap.size wr v ((offsL gap fr sz).take k)) ∧ Hid (New w wr) ∧ Hid (Ints wr (some BM) n more) ∧ Hid (v.ownBlock ≠ some BM.block)) (fun _ _ i _ => n - (intOf i).toNat)
      case atStart => exact ⟨0, Nat.zero_le _, rfl, FR.out, OT, NT, MT, SP⟩
      case round =>
        obtain ⟨k, hk, rfl, rfl, HO, HN, HM, HP⟩ := hrel
        by_cases hlt : k < n
        · obtain ⟨b, off, rfl, hb, hc⟩ := HX.out.at_ (by omega)
          obtain ⟨b', off', e', hb', hc'⟩ := HM.out.at_ (by omega)
          obtain rfl := Option.some.inj e'
          have C3 := Lib.hid (fun (W : World) (h : Ints W (some ⟨b, off, none⟩) n sz) => h.cell_ hlt)
          have C4 := Lib.hid (fun (W : World) (h : Ints W (some ⟨b', off', none⟩) n more) => h.cell_ hlt)
          have am := AT.out k hlt
          have sx := offAt_succ gap fr sz k
          have tk : (offsL gap fr sz).take (k + 1) = (offsL gap fr sz).take k ++ [offAt gap fr sz k] := by rw [take_snoc_i (by rw [offsL_len, LX.out]; exact hlt), offsL_at _ _ _ _ (by rw [LX.out]; exact hlt)]
          have tl : ((offsL gap fr sz).take k).length = k := by rw [List.length_take, offsL_len, LX.out]; omega
          have TK := Lib.hid tk; have TL := Lib.hid tl
          have b1 := FB.out k
          have b2 := EB.out k
          have b3 := SD.out k
          have b4 := FB.out (k + 1)
          have bo : 0 ≤ offAt gap fr sz k ∧ offAt gap fr sz k ≤ 10000000 := by unfold offAt; omega
          rw [← am] at sx b4
          have SX := Lib.hid sx
          have k0 : (0 : Int) ≤ (k : Int) := by omega
          have k1 : (k : Int) < (n : Int) := by omega
          have sz1 := HN.out.le
          clear hc hc' tk tl am sx b1 b2 e'
          generalize offAt gap fr sz k = u at *
          generalize more.getD k 0 = q at *
          generalize sz.getD k 0 = z at *
          go_wp2_with (at_builtin; refine wp_app2 rfl _ _ rfl w.heap.size _ _ rfl (HO.out.alloc _) wr.heap.size u rfl (Ints.one wr _ _) (by rw [TL.out]; omega) (by simp; omega) ?_; intro v6 w6 O6 G6 B6)
          have N6 := Lib.hid (new_own (HN.out.alloc _) G6 (HO.out.alloc _) (Nat.le_refl _))
          have M6 := Lib.hid ((HM.out.new ((New.refl _).alloc _)).keep G6 (fun b off e h => HP.out (h.trans (congrArg (fun (a : Addr) => some a.block) (Option.some.inj e)).symm)))
          have P6 : Hid (v6.ownBlock ≠ some b') := Lib.hid (by
            rcases B6 with h | h
            · rw [h]; exact HP.out
            · rw [h]; intro e; have := Option.some.inj e; simp at this; omega)
          replace O6 := Lib.hid O6
          clear G6 B6
          have g3 := C3.out w6 (HX.out.new N6.out)
          have g4 := C4.out w6 M6.out
          go_wp2
          go_quiet (fail)
          go_wp2
          go_roundw
          case rel => exact ⟨k + 1, by omega, by go_num, by rw [SX.out], Lib.hid (by rw [TK.out]; exact O6.out), Lib.hid (N6.out.drewN nq), Lib.hid (M6.out.drewN nq), P6⟩
          case measure => simp [intOf]; omega
        · obtain rfl : k = n := by omega
          have RR := HO.out
          rw [List.take_of_length_le (by rw [offsL_len, LX.out]; exact Nat.le_refl _)] at RR
          obtain ⟨B9, c9, rfl, _, Z9⟩ := RR.res
          go_wp2
          go_ret
          exact ⟨B9, _, c9, rfl, rfl, Z9, HN.out⟩
end Go.Proofs.Ytobnjagmakhgpaa

/- The reference's OffsetsOf, walked: it answers as the plain function does. Condition: the sizes can be read. -/
namespace Go.Proofs.Ytobnjagmakhgpaa
open Go.RowKit

theorem offsA_len (sz : List Int) (space gap j : Int) : (offsA sz space gap j).length ≤ 1048576 := by
  unfold offsA
  split
  · next h =>
    have := (rowB_len (ofOk_iff.1 h).1).2
    rw [offsL_len]; omega
  · simp
theorem soffs_any (A : Option Addr) (n c : Nat) (sz : List Int) (space gap j : Int) (hr : rowB 10000 sz = true) (hs : 0 ≤ space ∧ space ≤ 200000) (hg : 0 ≤ gap ∧ gap ≤ 50) (w : World) (hx : Ints w A n sz) :
    Calls Try.prog 99 #[.slice A n c, .int .i64 space, .int .i64 gap, .int .i64 j] w (Ans w (offsL gap (frontL (leftA sz space gap) sz.length j) sz)) := by
  by_cases h1 : j = 1
  · subst h1; exact soffs_end A n c sz space gap hr hs hg w hx
  by_cases h2 : j = 2
  · subst h2; exact soffs_mid A n c sz space gap hr hs hg w hx
  by_cases h3 : j = 3 ∧ 2 ≤ sz.length
  · obtain ⟨rfl, h4⟩ := h3; exact soffs_between A n c sz space gap h4 hr hs hg w hx
  · exact soffs_start A n c sz space gap j ⟨h1, h2, fun h => by have := fun h' => h3 ⟨h, h'⟩; omega⟩ hr hs hg w hx
end Go.Proofs.Ytobnjagmakhgpaa

/- Plain facts on offsets: where the last size ends, and that nothing left makes one order. No condition. -/
namespace Go.Proofs.Ytobnjagmakhgpaa
open Go.RowKit

theorem end_sum (gap : Int) (fr sz : List Int) (k : Nat) (hf : k ≤ fr.length) (hs : k ≤ sz.length) : endAt gap fr sz k = (fr.take k).sum + (sz.take k).sum + gap * (k : Int) := by
  induction k with
  | zero => simp [endAt]
  | succ k ih =>
    have e : endAt gap fr sz (k + 1) = fr.getD k 0 + endAt gap fr sz k + sz.getD k 0 + gap := rfl
    rw [e, ih (by omega) (by omega), sum_snoc (by omega), sum_snoc (by omega)]
    have e2 : gap * ((k + 1 : Nat) : Int) = gap * (k : Int) + gap := by rw [Int.natCast_add, Int.mul_add]; simp
    rw [e2]
    omega
theorem last_end (gap : Int) (fr sz : List Int) (k : Nat) (hf : fr.length = k + 1) (hs : sz.length = k + 1) : offAt gap fr sz k + sz.getD k 0 = fr.sum + sz.sum + gap * (k : Int) := by
  have h1 : fr.sum = (fr.take k).sum + fr.getD k 0 := by
    have h := sum_snoc (zs := fr) (k := k) (by omega)
    rw [List.take_of_length_le (by omega)] at h
    exact h
  have h2 : sz.sum = (sz.take k).sum + sz.getD k 0 := by
    have h := sum_snoc (zs := sz) (k := k) (by omega)
    rw [List.take_of_length_le (by omega)] at h
    exact h
  unfold offAt
  rw [end_sum gap fr sz k (by omega) (by omega), h1, h2]
  omega
theorem sum_le8 {xs : List Int} {M : Int} (h : ∀ z ∈ xs, z ≤ M) : xs.sum ≤ (xs.length : Int) * M := by
  induction xs with
  | nil => simp
  | cons x xs ih =>
    have h1 := h x (by simp)
    have h2 := ih fun z hz => h z (by simp [hz])
    have e : ((xs.length + 1 : Nat) : Int) * M = (xs.length : Int) * M + M := by rw [Int.natCast_add, Int.add_mul]; simp
    simp only [List.sum_cons, List.length_cons]
    omega
theorem zero_sum (n : Nat) : (List.replicate n (0 : Int)).sum = 0 := by simp
theorem set0_sum (n : Nat) (v : Int) (hn : 1 ≤ n) : ((List.replicate n (0 : Int)).set 0 v).sum = v := by
  obtain ⟨k, rfl⟩ : ∃ k, n = k + 1 := ⟨n - 1, by omega⟩
  simp [List.replicate_succ]
theorem frontL_sum (s : Int) (n : Nat) (j : Int) (hs : 0 ≤ s ∧ s ≤ 200000) (hn : 1 ≤ n ∧ n ≤ 8) :
    (frontL s n j).sum = if j = 1 then s else if j = 2 then s / 2 else if j = 3 ∧ 2 ≤ n then s else 0 := by
  by_cases h1 : j = 1
  · subst h1
    unfold frontL
    rw [if_pos rfl, if_pos rfl, set0_sum n s hn.1]
  by_cases h2 : j = 2
  · subst h2
    unfold frontL
    rw [if_neg (by omega), if_pos rfl, if_neg (by omega), if_pos rfl, set0_sum n _ hn.1]
  rw [if_neg h1, if_neg h2]
  by_cases h3 : j = 3
  · subst h3
    rw [frontL_three s n hs hn, List.sum_cons]
    by_cases h4 : 2 ≤ n
    · rw [if_pos ⟨rfl, h4⟩]
      have ok : shOk s (onesL (n - 1)) = true := by
        unfold shOk
        rw [Bool.and_eq_true, decide_eq_true_eq]
        exact ⟨hs, rowB_iff.2 ⟨by rw [ones_len]; omega, ones_wts _⟩⟩
      unfold shareA
      rw [if_pos ok, even_sum hs.1 (by omega)]
      omega
    · rw [if_neg (fun h => h4 h.2)]
      have e := shareA_ones s n hs hn.2
      have e2 : shareA s (onesL (n - 1)) = [] := List.eq_nil_of_length_eq_zero (by omega)
      rw [e2]
      simp
  · rw [if_neg (fun h => h3 h.1)]
    unfold frontL
    rw [if_neg h1, if_neg h2, if_neg h3, zero_sum]
theorem frontL_first (s : Int) (n : Nat) (j : Int) (hs : 0 ≤ s ∧ s ≤ 200000) (hn : 1 ≤ n ∧ n ≤ 8) : (frontL s n j).getD 0 0 = if j = 1 then s else if j = 2 then s / 2 else 0 := by
  by_cases h1 : j = 1
  · subst h1
    unfold frontL
    rw [if_pos rfl, if_pos rfl, getD_set _ _ _ _ (by simp; omega), if_pos rfl]
  by_cases h2 : j = 2
  · subst h2
    unfold frontL
    rw [if_neg (by omega), if_pos rfl, if_neg (by omega), if_pos rfl, getD_set _ _ _ _ (by simp; omega), if_pos rfl]
  rw [if_neg h1, if_neg h2]
  by_cases h3 : j = 3
  · subst h3
    rw [frontL_three s n hs hn]
    rfl
  · unfold frontL
    rw [if_neg h1, if_neg h2, if_neg h3, zero_at]
theorem frontL_none (n : Nat) (j : Int) (hn : 1 ≤ n ∧ n ≤ 8) : frontL 0 n j = List.replicate n 0 := by
  have hz : (List.replicate n (0 : Int)).set 0 0 = List.replicate n 0 := by
    obtain ⟨k, rfl⟩ : ∃ k, n = k + 1 := ⟨n - 1, by omega⟩
    simp [List.replicate_succ]
  by_cases h3 : j = 3
  · subst h3
    rw [frontL_three 0 n (by omega) hn]
    have hl := shareA_ones 0 n (by omega) hn.2
    have e : shareA 0 (onesL (n - 1)) = List.replicate (n - 1) 0 := by
      apply List.eq_replicate_iff.2
      refine ⟨hl, fun b hb => ?_⟩
      obtain ⟨i, hi, rfl⟩ := List.mem_iff_getElem.1 hb
      have e : (shareA 0 (onesL (n - 1))).getD i 0 = (shareA 0 (onesL (n - 1)))[i] := by simp [hi]
      rw [← e]
      unfold shareA
      split
      · next ok =>
        unfold shOk at ok
        rw [Bool.and_eq_true] at ok
        have h := rowB_len ok.2
        rw [ones_len] at h
        have := share_le (a := 0) (by omega) (ones_wts (n - 1)) (by rw [ones_sum]; omega) i
        omega
      · simp
    rw [e]
    obtain ⟨k, rfl⟩ : ∃ k, n = k + 1 := ⟨n - 1, by omega⟩
    simp [List.replicate_succ]
  · unfold frontL
    split
    · exact hz
    split
    · rw [show (0 : Int) / 2 = 0 from rfl]; exact hz
    rfl
end Go.Proofs.Ytobnjagmakhgpaa
