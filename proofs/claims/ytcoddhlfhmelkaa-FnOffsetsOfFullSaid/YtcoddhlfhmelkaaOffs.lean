/- OffsetsOf of the program and of the reference, walked: both say where sizes begin as the plain function does. Condition: the sizes can be read. -/
import Derived.Test.YtcoddhlfhmelkaaOffsM
import Derived.Test.YtcoddhlfhmelkaaSumG
namespace Go.Proofs.Ytcoddhlfhmelkaa
open Go.RowKit

theorem prod_gap {g n : Int} (hg : 0 ≤ g ∧ g ≤ 50) (hn : 0 ≤ n ∧ n ≤ 8) : 0 ≤ g * n ∧ g * n ≤ 400 := by
  refine ⟨Int.mul_nonneg hg.1 hn.1, ?_⟩
  have h1 : g * n ≤ 50 * n := Int.mul_le_mul_of_nonneg_right hg.2 hn.1
  omega
set_option maxRecDepth 100000 in
set_option maxHeartbeats 4000000 in
theorem OffsetsOf_yes (A : Option Addr) (n c : Nat) (sz : List Int) (space gap j : Int) (hr : rowB 10000 sz = true) (hs : 0 ≤ space ∧ space ≤ 200000) (hg : 0 ≤ gap ∧ gap ≤ 50) (hj : 0 ≤ j ∧ j ≤ 3) (w : World) (hx : Ints w A n sz) :
    Calls Try.prog 16 #[.slice A n c, .int .i64 space, .int .i64 gap, .int .i64 j] w (Ans w (offsL gap (frontL (leftA sz space gap) sz.length j) sz)) := by
  have lx := hx.len
  obtain ⟨n1, n8⟩ := rowB_len hr
  have hsz : ∀ z ∈ sz, 0 ≤ z ∧ z ≤ 10000 := (rowB_iff.1 hr).2
  have hszd : ∀ i, 0 ≤ sz.getD i 0 ∧ sz.getD i 0 ≤ 10000 := fun i => getD_of_mem ⟨by omega, by omega⟩ hsz i
  have sml : Sml sz := fun z hz => by have := hsz z hz; omega
  have sb := sum_bd sml n
  rw [List.take_of_length_le (by omega)] at sb
  have s0 := sum_nonneg (xs := sz) fun z hz => (hsz z hz).1
  have pg := prod_gap (g := gap) (n := (n : Int) - 1) hg (by omega)
  have lb := leftA_bd sz space gap s0 hs (by rw [lx]; exact pg.1)
  have le : leftA sz space gap = mx 0 (space - gapSum sz gap) := by unfold leftA; rw [lx, gapSum_pos lx (show 1 ≤ n by omega), Int.sub_sub]
  have gs : 0 ≤ gapSum sz gap ∧ gapSum sz gap ≤ 10000000000 := by rw [gapSum_pos lx (show 1 ≤ n by omega)]; omega
  rw [lx]
  have fl := frontL_len (leftA sz space gap) n j lb (by omega)
  have fb := frontL_bd (leftA sz space gap) n j lb (by omega)
  have eb := end_bd gap (frontL (leftA sz space gap) n j) sz hg fb hszd
  have HX := Lib.hid hx; have LX := Lib.hid lx; have HR := Lib.hid hr; have HS := Lib.hid sml; have LB := Lib.hid lb
  have FL := Lib.hid fl; have FB := Lib.hid fb; have EB := Lib.hid eb; have SD := Lib.hid hszd
  have lb1 := lb.1; have lb2 := lb.2
  have d1 := decide_eq_true hs; have d2 := decide_eq_true hg; have d3 := decide_eq_true hj
  have i1 : (1 : Int) ≤ (n : Int) := by omega
  have i8 : (n : Int) ≤ 8 := by omega
  have hnn : 1 ≤ n ∧ n ≤ 8 := by omega
  have LE := Lib.hid le
  rw [le] at lb1 lb2
  have hmx := fun (W : World) (ts : Array TypeId) (t : TypeId) (x y : Int) => run_mx Try.prog W ts t x y
  clear hx lx hr hsz hszd sml lb fl fb eb le
  obtain ⟨hs0, hs1⟩ := hs
  obtain ⟨hg0, hg1⟩ := hg
  obtain ⟨pg0, pg1⟩ := pg
  obtain ⟨gs0, gs1⟩ := gs
  generalize hGS : gapSum sz gap = gs at *
  go_enter Try.func16, Try.ntmps16
  go_wp2_with (first
    | (go_at_call 39; refine (validRow_any A n c sz _ (by omega) _ (HX.out.new (by (repeat (first | exact New.refl _ | assumption | refine New.alloc ?_ _ | refine New.drew ?_ | refine New.drewN ?_ _ | refine New.setCell ?_ (by first | omega | (simp; omega) | (simp; done)) _ | refine New.trans ?_ (by assumption)))))).mono ?_; rw [HR.out]; rintro e w' ⟨rfl, rfl⟩)
    | (go_at_call_of 40 space; refine (within_any _ _ _ _).mono ?_; rw [d1]; rintro e w' ⟨rfl, rfl⟩)
    | (go_at_call_of 40 gap; refine (within_any _ _ _ _).mono ?_; rw [d2]; rintro e w' ⟨rfl, rfl⟩)
    | (go_at_call_of 40 j; refine (within_any _ _ _ _).mono ?_; rw [d3]; rintro e w' ⟨rfl, rfl⟩)
    | (go_at_call 41; refine (sumWithGaps_any A n c sz gap (by omega) ⟨hg0, hg1⟩ _ (HX.out.new (by (repeat (first | exact New.refl _ | assumption | refine New.alloc ?_ _ | refine New.drew ?_ | refine New.drewN ?_ _ | refine New.setCell ?_ (by first | omega | (simp; omega) | (simp; done)) _ | refine New.trans ?_ (by assumption))))) HS.out).mono ?_; rintro e w' ⟨rfl, rfl⟩)
    | (go_at_call 42; rw [← LE.out]; refine (spare_any (leftA sz space gap) n j LB.out hnn _).mono ?_; rintro e w2 ⟨g, rfl, hg2, R2, N2⟩))
  have R2 := Lib.hid R2; have N2 := Lib.hid N2
  clear hmx pg0 pg1 sb s0 lb1 lb2
  generalize hF : frontL (leftA sz space gap) n j = fr at *
  clear hF
  go_loopw [11, 45] (fun t i wr => ∃ k : Nat, k ≤ n ∧ i = .int .i64 k ∧ t = .int .i64 (endAt gap fr sz k) ∧ Hid (Row wr g (offTo gap fr sz k)) ∧ Hid (New w wr)) (fun _ i _ => n - (intOf i).toNat)
  case atStart => exact ⟨0, Nat.zero_le _, rfl, rfl, Lib.hid (by rw [offTo_zero]; exact R2.out), N2⟩
  case round =>
    obtain ⟨k, hk, rfl, rfl, HRW, HN⟩ := hrel
    by_cases hlt : k < n
    · obtain ⟨b, off, rfl, hb, hc⟩ := HX.out.at_ (by omega)
      have g1 := (HN.out.cells b _ hb).trans (hc k hlt)
      have hl : fr.length = sz.length := FL.out.trans LX.out.symm
      have tl : (offTo gap fr sz k).length = n := by rw [offTo_len _ _ _ _ hl (by rw [LX.out]; exact hk), LX.out]
      have f1 := HRW.out.f k (by rw [tl]; exact hlt)
      have o1 := HRW.out.c k (by rw [tl]; exact hlt)
      rw [offTo_at _ _ _ _ (by rw [LX.out]; exact hlt)] at o1
      have S1 := HRW.out.set_ (k := k) (by rw [tl]; exact hlt) (offAt gap fr sz k)
      rw [offTo_step _ _ _ _ hl (by rw [LX.out]; exact hlt)] at S1
      have e1 : endAt gap fr sz (k + 1) = fr.getD k 0 + endAt gap fr sz k + sz.getD k 0 + gap := rfl
      have e2 : offAt gap fr sz k = fr.getD k 0 + endAt gap fr sz k := rfl
      rw [e2] at S1
      have S1 := Lib.hid S1; have E1 := Lib.hid e1
      have b1 := FB.out k
      have b2 := EB.out k
      have b3 := SD.out k
      have k0 : (0 : Int) ≤ (k : Int) := by omega
      have k1 : (k : Int) < (n : Int) := by omega
      have k8 : (k : Int) ≤ 8 := by omega
      clear hc hl tl e1 e2
      generalize fr.getD k 0 = u at *
      generalize endAt gap fr sz k = v at *
      generalize sz.getD k 0 = z at *
      go_wp2
      go_roundw
      case rel => exact ⟨k + 1, by omega, by go_num, by rw [E1.out], S1, Lib.hid (HN.out.setCell hg2 _)⟩
      case measure => simp [intOf]; omega
    · obtain rfl : k = n := by omega
      have hl : fr.length = sz.length := FL.out.trans LX.out.symm
      have RR : Hid (Row wr g (offsL gap fr sz)) := Lib.hid (by have h := HRW.out; rw [← LX.out, offTo_all _ _ _ hl] at h; exact h)
      go_wp2
      go_ret
      exact Ans.row rfl ((offsL_len _ _ _).trans LX.out) hg2 RR.out HN.out
theorem ofOk_iff {sz : List Int} {space gap j : Int} : ofOk sz space gap j = true ↔ rowB 10000 sz = true ∧ (0 ≤ space ∧ space ≤ 200000) ∧ (0 ≤ gap ∧ gap ≤ 50) ∧ (0 ≤ j ∧ j ≤ 3) := by
  unfold ofOk
  rw [Bool.and_eq_true, Bool.and_eq_true, Bool.and_eq_true, decide_eq_true_eq, decide_eq_true_eq, decide_eq_true_eq]
  constructor
  · rintro ⟨⟨⟨h1, h2⟩, h3⟩, h4⟩; exact ⟨h1, h2, h3, h4⟩
  · rintro ⟨h1, h2, h3, h4⟩; exact ⟨⟨⟨h1, h2⟩, h3⟩, h4⟩
set_option maxRecDepth 100000 in
set_option maxHeartbeats 4000000 in
theorem OffsetsOf_no (A : Option Addr) (n c : Nat) (sz : List Int) (space gap j : Int) (hn : n ≤ 1048576) (h : ofOk sz space gap j = false) (w : World) (hx : Ints w A n sz) :
    Calls Try.prog 16 #[.slice A n c, .int .i64 space, .int .i64 gap, .int .i64 j] w (Ans w []) := by
  have HX := Lib.hid hx; have HH := Lib.hid h
  clear hx h
  cases hr : rowB 10000 sz
  · have HR := Lib.hid hr
    clear hr
    go_enter Try.func16, Try.ntmps16
    go_wp2_with (go_at_call 39; refine (validRow_any A n c sz _ hn _ (HX.out.new (by (repeat (first | exact New.refl _ | assumption | refine New.alloc ?_ _ | refine New.drew ?_ | refine New.drewN ?_ _ | refine New.setCell ?_ (by first | omega | (simp; omega) | (simp; done)) _ | refine New.trans ?_ (by assumption)))))).mono ?_; rw [HR.out]; rintro e w' ⟨rfl, rfl⟩)
    go_ret
    exact Ans.none_ rfl (by (repeat (first | exact New.refl _ | assumption | refine New.alloc ?_ _ | refine New.drew ?_ | refine New.drewN ?_ _ | refine New.setCell ?_ (by first | omega | (simp; omega) | (simp; done)) _ | refine New.trans ?_ (by assumption))))
  · have HR := Lib.hid hr
    cases d1 : decide (0 ≤ space ∧ space ≤ 200000)
    · clear hr
      go_enter Try.func16, Try.ntmps16
      go_wp2_with (first
        | (go_at_call 39; refine (validRow_any A n c sz _ hn _ (HX.out.new (by (repeat (first | exact New.refl _ | assumption | refine New.alloc ?_ _ | refine New.drew ?_ | refine New.drewN ?_ _ | refine New.setCell ?_ (by first | omega | (simp; omega) | (simp; done)) _ | refine New.trans ?_ (by assumption)))))).mono ?_; rw [HR.out]; rintro e w' ⟨rfl, rfl⟩)
        | (go_at_call_of 40 space; refine (within_any _ _ _ _).mono ?_; rw [d1]; rintro e w' ⟨rfl, rfl⟩))
      go_ret
      exact Ans.none_ rfl (by (repeat (first | exact New.refl _ | assumption | refine New.alloc ?_ _ | refine New.drew ?_ | refine New.drewN ?_ _ | refine New.setCell ?_ (by first | omega | (simp; omega) | (simp; done)) _ | refine New.trans ?_ (by assumption))))
    · cases d2 : decide (0 ≤ gap ∧ gap ≤ 50)
      · clear hr
        go_enter Try.func16, Try.ntmps16
        go_wp2_with (first
          | (go_at_call 39; refine (validRow_any A n c sz _ hn _ (HX.out.new (by (repeat (first | exact New.refl _ | assumption | refine New.alloc ?_ _ | refine New.drew ?_ | refine New.drewN ?_ _ | refine New.setCell ?_ (by first | omega | (simp; omega) | (simp; done)) _ | refine New.trans ?_ (by assumption)))))).mono ?_; rw [HR.out]; rintro e w' ⟨rfl, rfl⟩)
          | (go_at_call_of 40 space; refine (within_any _ _ _ _).mono ?_; rw [d1]; rintro e w' ⟨rfl, rfl⟩)
          | (go_at_call_of 40 gap; refine (within_any _ _ _ _).mono ?_; rw [d2]; rintro e w' ⟨rfl, rfl⟩))
        go_ret
        exact Ans.none_ rfl (by (repeat (first | exact New.refl _ | assumption | refine New.alloc ?_ _ | refine New.drew ?_ | refine New.drewN ?_ _ | refine New.setCell ?_ (by first | omega | (simp; omega) | (simp; done)) _ | refine New.trans ?_ (by assumption))))
      · have d3 : decide (0 ≤ j ∧ j ≤ 3) = false := by
          cases d3 : decide (0 ≤ j ∧ j ≤ 3)
          · rfl
          · exfalso
            have h := HH.out
            unfold ofOk at h
            rw [hr, d1, d2, d3] at h
            simp at h
        clear hr
        go_enter Try.func16, Try.ntmps16
        go_wp2_with (first
          | (go_at_call 39; refine (validRow_any A n c sz _ hn _ (HX.out.new (by (repeat (first | exact New.refl _ | assumption | refine New.alloc ?_ _ | refine New.drew ?_ | refine New.drewN ?_ _ | refine New.setCell ?_ (by first | omega | (simp; omega) | (simp; done)) _ | refine New.trans ?_ (by assumption)))))).mono ?_; rw [HR.out]; rintro e w' ⟨rfl, rfl⟩)
          | (go_at_call_of 40 space; refine (within_any _ _ _ _).mono ?_; rw [d1]; rintro e w' ⟨rfl, rfl⟩)
          | (go_at_call_of 40 gap; refine (within_any _ _ _ _).mono ?_; rw [d2]; rintro e w' ⟨rfl, rfl⟩)
          | (go_at_call_of 40 j; refine (within_any _ _ _ _).mono ?_; rw [d3]; rintro e w' ⟨rfl, rfl⟩))
        go_ret
        exact Ans.none_ rfl (by (repeat (first | exact New.refl _ | assumption | refine New.alloc ?_ _ | refine New.drew ?_ | refine New.drewN ?_ _ | refine New.setCell ?_ (by first | omega | (simp; omega) | (simp; done)) _ | refine New.trans ?_ (by assumption))))
theorem OffsetsOf_ans (sz : List Int) (space gap j : Int) (B : Option Addr) (m d : Nat) (W : World) (hx : Ints W B m sz) (hm : m ≤ 1048576) :
    Calls Try.prog 16 #[.slice B m d, .int .i64 space, .int .i64 gap, .int .i64 j] W (Ans W (offsA sz space gap j)) := by
  unfold offsA
  cases h : ofOk sz space gap j
  · rw [if_neg (by decide)]
    exact OffsetsOf_no B m d sz space gap j hm h W hx
  · rw [if_pos rfl]
    obtain ⟨h1, h2, h3, h4⟩ := ofOk_iff.1 h
    exact OffsetsOf_yes B m d sz space gap j h1 h2 h3 h4 W hx
end Go.Proofs.Ytcoddhlfhmelkaa
