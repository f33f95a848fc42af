/- The program's ShareSpace, walked: a space in its range is split by weights in their range as the plain function says. Conditions: the weights can be read and are in their range. -/
import Derived.Test.YtnipnemhbelcaaaShareP
namespace Go.Proofs.Ytnipnemhbelcaaa
open Go.RowKit

theorem rowB_iff {hi : Int} {xs : List Int} : rowB hi xs = true ↔ (1 ≤ (xs.length : Int) ∧ (xs.length : Int) ≤ 8) ∧ ∀ z ∈ xs, 0 ≤ z ∧ z ≤ hi := by
  unfold rowB
  rw [Bool.and_eq_true, decide_eq_true_eq, allB_iff]
theorem sortedP_fst (r : List Int) (i : Nat) (h : i < r.length) : ∃ p v, (turnsL r)[i]? = some p ∧ (sortedP r)[i]!.1 = (p : Int) ∧ (sortedP r)[i]!.2 = v ∧ p < r.length := by
  obtain ⟨h1, h2, h3⟩ := sortedP_at r i h
  exact ⟨_, _, h1, by conv => lhs; rw [h2], rfl, h3⟩
theorem handL_step (l : List Nat) (o : List Int) (j p : Nat) (h : l[j]? = some p) : handL (l.take (j + 1)) o = (handL (l.take j) o).set p ((handL (l.take j) o).getD p 0 + 1) := by
  rw [List.take_add_one, h]
  simp [handL]
theorem handL_len (l : List Nat) (o : List Int) : (handL l o).length = o.length := by
  unfold handL
  induction l generalizing o with
  | nil => rfl
  | cons a l ih => simp only [List.foldl_cons]; rw [ih]; simp
theorem rest_nonneg (a : Int) (ws : List Int) (hs : ¬ ws.sum = 0) : ∀ i, i < (restL a ws).length → 0 ≤ (restL a ws).getD i 0 := fun i hi => by
  rw [restL_at a ws i (by rw [restL_len] at hi; exact hi)]
  exact Int.emod_nonneg _ hs
/-- The rests are sorted. -/
theorem sortRest_any (u : World) (g n : Nat) (r : List Int) (hn : r.length = n) (h8 : n ≤ 8) (w : World) (h : RowP w g (pairsL r).toArray) (hg : u.heap.size ≤ g) (hN : New u w) :
    Calls Try.prog 69 #[.slice (some ⟨g, 0, none⟩) n n, .func (.func 70) #[] #[]] w fun e w' => e = .returned (.tuple #[]) ∧ RowP w' g (sortedP r) ∧ (∀ s zs, Row w s zs → s ≠ g → Row w' s zs) ∧ New u w' := by
  subst hn
  refine (sortStable_any g r.length (pairsL r).toArray (by simp [pairsL_len]) h8 w h.holds h.lt).mono ?_
  rintro e w' ⟨rfl, k, os, rfl⟩
  exact ⟨rfl, RowP.sort (d := sortedP r) h k os ((sortedP_perm r).1.trans (by simp [pairsL_len])), fun s zs hs hne => hs.sort g k _ os hne, sort_new hN g k _ os hg⟩
set_option maxHeartbeats 4000000 in
theorem ShareSpace_yes (A : Option Addr) (n c : Nat) (a : Int) (ws : List Int) (ha : 0 ≤ a ∧ a ≤ 200000) (hr : rowB 200000 ws = true) (w : World) (hx : Ints w A n ws) :
    Calls Try.prog 57 #[.int .i64 a, .slice A n c] w fun e w' => ∃ g, e = .returned (.slice (some ⟨g, 0, none⟩) n n) ∧ w.heap.size ≤ g ∧ Row w' g (shareL a ws) ∧ New w w' := by
  have lx := hx.len
  have LX := Lib.hid lx
  have HX := Lib.hid hx
  obtain ⟨⟨n1', n8'⟩, hw'⟩ := rowB_iff.1 hr
  have hw : Wts ws := hw'
  have n1 : 1 ≤ n := by omega
  have n8 : n ≤ 8 := by omega
  have HW := Lib.hid hw
  have HR := Lib.hid hr
  have HA := Lib.hid ha
  have hd : decide (0 ≤ a ∧ a ≤ 200000) = true := decide_eq_true ha
  have hmk := fun W => run_make_row' (P := Try.prog) 36 3 (.int .i64 0) 8 Try.underlying36 (by kernel_rfl) rfl .i64 .i64 n (by omega) (by omega) W
  have hmd := fun W => mk_div n n8 W
  have sb := sum_bd hw.sml n
  rw [List.take_of_length_le (by omega)] at sb
  have s0 := sum_nonneg (xs := ws) fun z hz => (hw z hz).1
  clear hx lx hw hw' hr n1' n8'
  by_cases hs : ws.sum = 0
  · have HS := Lib.hid hs
    clear hs sb s0 ha
    go_enter Try.func57, Try.ntmps57
    go_wp2_with (first
      | (go_at_call 38; refine (within_any _ _ _ _).mono ?_; rw [hd]; rintro e w' ⟨rfl, rfl⟩)
      | (go_at_call 67; refine (validRow_any A n c ws _ (by omega) _ (HX.out.new (by (repeat (first | exact New.refl _ | assumption | refine New.alloc ?_ _ | refine New.drew ?_ | refine New.drewN ?_ _ | refine New.setCell ?_ (by first | omega | (simp; omega) | (simp; done)) _ | refine New.trans ?_ (by assumption)))))).mono ?_; rw [HR.out]; rintro e w' ⟨rfl, rfl⟩)
      | (go_at_call 68; refine (sumOf_any A n c ws (by omega) _ (HX.out.new (by (repeat (first | exact New.refl _ | assumption | refine New.alloc ?_ _ | refine New.drew ?_ | refine New.drewN ?_ _ | refine New.setCell ?_ (by first | omega | (simp; omega) | (simp; done)) _ | refine New.trans ?_ (by assumption))))) HW.out.sml).mono ?_; rw [HS.out]; rintro e w' ⟨rfl, rfl⟩))
    go_ret
    refine ⟨w.heap.size, rfl, Nat.le_refl _, ?_, by (repeat (first | exact New.refl _ | assumption | refine New.alloc ?_ _ | refine New.drew ?_ | refine New.drewN ?_ _ | refine New.setCell ?_ (by first | omega | (simp; omega) | (simp; done)) _ | refine New.trans ?_ (by assumption)))⟩
    have h := Row.made w n 3
    unfold shareL
    rw [if_pos HS.out, LX.out]
    exact h.new (by (repeat (first | exact New.refl _ | assumption | refine New.alloc ?_ _ | refine New.drew ?_ | refine New.drewN ?_ _ | refine New.setCell ?_ (by first | omega | (simp; omega) | (simp; done)) _ | refine New.trans ?_ (by assumption))))
  · have hs1 : 1 ≤ ws.sum := by omega
    have HS := Lib.hid hs
    have hsb : (ws.sum == 0) = false := by simpa using hs
    clear hs s0 ha
    go_enter Try.func57, Try.ntmps57
    go_wp2_with (first
      | (go_at_call 38; refine (within_any _ _ _ _).mono ?_; rw [hd]; rintro e w' ⟨rfl, rfl⟩)
      | (go_at_call 67; refine (validRow_any A n c ws _ (by omega) _ (HX.out.new (by (repeat (first | exact New.refl _ | assumption | refine New.alloc ?_ _ | refine New.drew ?_ | refine New.drewN ?_ _ | refine New.setCell ?_ (by first | omega | (simp; omega) | (simp; done)) _ | refine New.trans ?_ (by assumption)))))).mono ?_; rw [HR.out]; rintro e w' ⟨rfl, rfl⟩)
      | (go_at_call 68; refine (sumOf_any A n c ws (by omega) _ (HX.out.new (by (repeat (first | exact New.refl _ | assumption | refine New.alloc ?_ _ | refine New.drew ?_ | refine New.drewN ?_ _ | refine New.setCell ?_ (by first | omega | (simp; omega) | (simp; done)) _ | refine New.trans ?_ (by assumption))))) HW.out.sml).mono ?_; rintro e w' ⟨rfl, rfl⟩))
    have R0 := (Row.made w n 3).new ((New.refl _).alloc (.cells (madeCells #[.int .i64 0, .int .i64 0] (n * 2)) 82))
    have R1 := RowP.made (w.alloc (.cells (madeCells #[.int .i64 0] n) 3)) n 82
    have N0 : New w ((w.alloc (.cells (madeCells #[.int .i64 0] n) 3)).alloc (.cells (madeCells #[.int .i64 0, .int .i64 0] (n * 2)) 82)) := by (repeat (first | exact New.refl _ | assumption | refine New.alloc ?_ _ | refine New.drew ?_ | refine New.drewN ?_ _ | refine New.setCell ?_ (by first | omega | (simp; omega) | (simp; done)) _ | refine New.trans ?_ (by assumption)))
    simp only [World.size_alloc] at R1
    have R0 := Lib.hid R0; have R1 := Lib.hid R1; have N0 := Lib.hid N0
    clear hmk hmd
    generalize hW : (w.alloc (.cells (madeCells #[Value.int .i64 0] n) 3)).alloc (.cells (madeCells #[.int .i64 0, .int .i64 0] (n * 2)) 82) = W at R0 R1 N0 ⊢
    clear hW
    have bb := base_bd a ws HA.out.1 HW.out HS.out
    have SB := Lib.hid (show Sml (baseL a ws) from fun z hz => by have := bb z hz; have := HA.out; omega)
    have BB := Lib.hid bb
    have LB := Lib.hid (baseL_len a ws); have LR := Lib.hid (restL_len a ws)
    clear bb
    obtain ⟨ha0, ha1⟩ := HA.out
    go_loopw [33] (fun i wr => ∃ k : Nat, k ≤ n ∧ i = .int .i64 k ∧ Hid (Row wr w.heap.size (upTo k (baseL a ws))) ∧ Hid (RowP wr (w.heap.size + 1) (ppTo k (restL a ws))) ∧ Hid (New w wr)) (fun i _ => n - (intOf i).toNat)
    case atStart => exact ⟨0, Nat.zero_le _, rfl, Lib.hid (by rw [upTo_zero, LB.out, LX.out]; exact R0.out), Lib.hid (by rw [ppTo_zero, LR.out, LX.out]; exact R1.out), N0⟩
    case round =>
      obtain ⟨k, hk, rfl, HG, HH, HN⟩ := hrel
      by_cases hlt : k < n
      · obtain ⟨b, off, rfl, hb, hc⟩ := HX.out.at_ (by omega)
        have g := (HN.out.cells b _ hb).trans (hc k hlt)
        have lG := upTo_len k (baseL a ws) (by rw [LB.out, LX.out]; omega)
        have lH := ppTo_size k (restL a ws) (by rw [LR.out, LX.out]; omega)
        have fG := HG.out.f k (by rw [lG, LB.out, LX.out]; exact hlt)
        have oG := HG.out.c k (by rw [lG, LB.out, LX.out]; exact hlt)
        have fH0 := HH.out.f (k * 2) (by rw [lH, LR.out, LX.out]; omega)
        have fH1 := HH.out.f (k * 2 + 1) (by rw [lH, LR.out, LX.out]; omega)
        have oH0 := HH.out.c0 k (by rw [lH, LR.out, LX.out]; exact hlt)
        have oH1 := HH.out.c1 k (by rw [lH, LR.out, LX.out]; exact hlt)
        have zb := HW.out.at_ k
        have mb := mul_bd ⟨ha0, ha1⟩ zb
        have eb := baseL_at a ws k (by rw [LX.out]; exact hlt)
        have er := restL_at a ws k (by rw [LX.out]; exact hlt)
        have SG := HG.out.set_ (k := k) (by rw [lG, LB.out, LX.out]; exact hlt) ((baseL a ws).getD k 0)
        rw [upTo_step k _ (by rw [LB.out, LX.out]; exact hlt), eb] at SG
        have SH := (HH.out.far (p := ⟨w.heap.size, k, none⟩) (by simp) (.int .i64 (a * ws.getD k 0 / ws.sum))).set_ (k := k) (by rw [lH, LR.out, LX.out]; exact hlt) (k : Int) ((restL a ws).getD k 0)
        rw [ppTo_step k _ (by rw [LR.out, LX.out]; exact hlt), er] at SH
        have SG2 := Lib.hid ((SG.far (p := ⟨w.heap.size + 1, k * 2, none⟩) (by simp) (.int .i64 (k : Int))).far (p := ⟨w.heap.size + 1, k * 2 + 1, none⟩) (by simp) (.int .i64 (a * ws.getD k 0 % ws.sum)))
        have SH := Lib.hid SH
        have k0 : (0 : Int) ≤ (k : Int) := by omega
        have k1 : (k : Int) < (n : Int) := by omega
        have k8 : (k : Int) ≤ 8 := by omega
        clear hc lG lH eb er SG
        generalize (upTo k (baseL a ws)).getD k 0 = y1 at oG
        generalize (ppTo k (restL a ws))[k]!.1 = y2 at oH0
        generalize (ppTo k (restL a ws))[k]!.2 = y3 at oH1
        generalize ws.getD k 0 = z at *
        generalize ws.sum = T at *
        go_wp2
        exact ⟨⟨k + 1, by omega, by go_num, SG2, SH, Lib.hid (((HN.out.setCell (by simp) _).setCell (by simp) _).setCell (by simp) _)⟩, by simp [intOf]; omega⟩
      · have hk' : k = n := by omega
        subst hk'
        have lB : (baseL a ws).length = k := LB.out.trans LX.out
        have lR : (restL a ws).length = k := LR.out.trans LX.out
        have G0 := HG.out; have H0 := HH.out
        have eG : upTo k (baseL a ws) = baseL a ws := by have h := upTo_all (baseL a ws); rw [lB] at h; exact h
        have eH : ppTo k (restL a ws) = (pairsL (restL a ws)).toArray := by have h := ppTo_all (restL a ws); rw [lR] at h; exact h
        rw [eG] at G0
        rw [eH] at H0
        have G0 := Lib.hid G0; have H0 := Lib.hid H0
        have bl := base_le a ws ha0 HW.out HS.out
        have b0 := sum_nonneg (xs := baseL a ws) fun z hz => (BB.out z hz).1
        have ll := left_le a ws HW.out HS.out
        have l0 : 0 ≤ leftL a ws := by unfold leftL; omega
        obtain ⟨L, hL⟩ := Int.eq_ofNat_of_zero_le l0
        have eS : (baseL a ws).sum = a - (L : Int) := by have : leftL a ws = a - (baseL a ws).sum := rfl; omega
        have Ln : L ≤ k := by have := LX.out; omega
        have EL := Lib.hid hL
        have hLL : a - (a - (L : Int)) = (L : Int) := by omega
        have La : (L : Int) ≤ a := by omega
        have L0 : (0 : Int) ≤ (L : Int) := by omega
        have Lk : (L : Int) ≤ (k : Int) := by omega
        have ES := Lib.hid eS
        have LBB := Lib.hid lB; have LRR := Lib.hid lR
        clear eG eH bl b0 ll l0 hL eS lB lR HG HH sb hs1 hsb hlt hk
        go_wp2_with (first
          | (go_at_call 69; refine (sortRest_any w (w.heap.size + 1) k (restL a ws) LRR.out n8 _ H0.out (by omega) HN.out).mono ?_; rintro e w2 ⟨rfl, H2, G2, N2⟩; (have G2 := Lib.hid (G2 _ _ G0.out (by omega))); (have H2 := Lib.hid H2); (have N2 := Lib.hid N2))
          | (go_at_call 68; refine (sumOf_any (some ⟨w.heap.size, 0, none⟩) k k (baseL a ws) (by omega) _ (LBB.out ▸ G2.out.ints) SB.out).mono ?_; rw [ES.out]; rintro e w' ⟨rfl, rfl⟩))
        have G2' := G2.out
        go_loopw [66] (fun i wq => ∃ j : Nat, j ≤ L ∧ i = .int .i64 j ∧ Hid (Row wq w.heap.size (handL ((turnsL (restL a ws)).take j) (baseL a ws))) ∧ Hid (RowP wq (w.heap.size + 1) (sortedP (restL a ws))) ∧ Hid (New w wq)) (fun i _ => L - (intOf i).toNat)
        case atStart => exact ⟨0, Nat.zero_le _, rfl, Lib.hid (by simpa [handL] using G2'), H2, N2⟩
        case round =>
          obtain ⟨j, hj, rfl, HG, HH, HN3⟩ := hrel
          by_cases hlt : j < L
          · have hjr : j < (restL a ws).length := by rw [LRR.out]; omega
            obtain ⟨p, v', t1, t2, t3, t4⟩ := sortedP_fst (restL a ws) j hjr
            have c0 := HH.out.c0 j (by rw [(sortedP_perm _).1]; exact hjr)
            have c1 := HH.out.c1 j (by rw [(sortedP_perm _).1]; exact hjr)
            rw [t2] at c0
            rw [t3] at c1
            rw [LRR.out] at t4
            have E1 := handL_step (turnsL (restL a ws)) (baseL a ws) j p t1
            have lh := Lib.hid ((handL_len ((turnsL (restL a ws)).take j) (baseL a ws)).trans LBB.out)
            have bo := spin_bd j (baseL a ws) (restL a ws) 200000 (fun i => by have h := getD_of_mem ⟨by omega, by omega⟩ BB.out i; omega) p
            rw [spin_turns _ _ (rest_nonneg a ws HS.out) j (by omega)] at bo
            have cs := HG.out.c p (by rw [lh.out]; exact t4)
            have fs := HG.out.f p (by rw [lh.out]; exact t4)
            have ls := HG.out.lt
            have lg := HH.out.lt
            have E1 := Lib.hid E1
            have j0 : (0 : Int) ≤ (j : Int) := by omega
            have j1 : (j : Int) < (L : Int) := by omega
            have jk : (j : Int) < (k : Int) := by omega
            have j8 : (j : Int) ≤ 8 := by omega
            have p0 : (0 : Int) ≤ (p : Int) := by omega
            have pk : (p : Int) < (k : Int) := by omega
            clear t1 t2 t3 hjr
            generalize handL ((turnsL (restL a ws)).take j) (baseL a ws) = o at *
            generalize o.getD p 0 = v at *
            go_wp2
            exact ⟨⟨j + 1, by omega, by go_num, Lib.hid (by rw [E1.out]; exact (HG.out.set_ (by rw [lh.out]; exact t4) (v + 1)).new ((New.refl _).alloc _)), Lib.hid ((HH.out.far (p := ⟨w.heap.size, p, none⟩) (by simp) _).new ((New.refl _).alloc _)), Lib.hid ((HN3.out.setCell (by simp) _).alloc _)⟩, by simp [intOf]; omega⟩
          · have hj' : j = L := by omega
            subst hj'
            go_wp2
            go_ret
            refine ⟨w.heap.size, rfl, Nat.le_refl _, ?_, HN3.out⟩
            unfold shareL
            rw [if_neg HS.out, EL.out, Int.toNat_natCast, spin_turns _ _ (rest_nonneg a ws HS.out) j (by rw [LRR.out]; omega)]
            exact HG.out
end Go.Proofs.Ytnipnemhbelcaaa
