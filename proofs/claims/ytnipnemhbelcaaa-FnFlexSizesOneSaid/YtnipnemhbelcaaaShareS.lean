/- The reference's share, walked: a space in 0 to 200000 is split by up to eight weights in 0 to 200000 as the plain function says. Conditions: the weights can be read and are in their range. -/
import Derived.Test.YtnipnemhbelcaaaShareM
import Derived.Test.YtnipnemhbelcaaaInts2
namespace Go.Proofs.Ytnipnemhbelcaaa
open Go.RowKit

set_option maxHeartbeats 4000000 in
theorem share_any (A : Option Addr) (n c : Nat) (a : Int) (ws : List Int) (hn : n ≤ 8) (ha : 0 ≤ a ∧ a ≤ 200000) (hw : Wts ws) (w : World) (hx : Ints w A n ws) :
    Calls Try.prog 73 #[.int .i64 a, .slice A n c] w fun e w' => ∃ g, e = .returned (.slice (some ⟨g, 0, none⟩) n n) ∧ w.heap.size ≤ g ∧ Row w' g (shareL a ws) ∧ New w w' := by
  have hmk := fun W => run_make_row' (P := Try.prog) 36 3 (.int .i64 0) 8 Try.underlying36 (by kernel_rfl) rfl .i64 .i64 n (by omega) (by omega) W
  have lx := hx.len
  have LX := Lib.hid lx
  have HX := Lib.hid hx
  have HW := Lib.hid hw
  have sb := sum_bd hw.sml n
  rw [List.take_of_length_le (by omega)] at sb
  have s0 := sum_nonneg (xs := ws) fun z hz => (hw z hz).1
  clear hx lx hw
  by_cases hs : ws.sum = 0
  · have HS := Lib.hid hs
    clear hs sb s0
    go_enter Try.func73, Try.ntmps73
    go_wp2_with fail
    refine (ssum_any A n c ws (by omega) _ (HX.out.new (by (repeat (first | exact New.refl _ | assumption | refine New.alloc ?_ _ | refine New.drew ?_ | refine New.drewN ?_ _ | refine New.setCell ?_ (by first | omega | (simp; omega) | (simp; done)) _ | refine New.trans ?_ (by assumption))))) HW.out.sml).mono ?_
    rintro e w' ⟨rfl, rfl⟩
    rw [HS.out]
    go_wp2
    go_ret
    refine ⟨w.heap.size, rfl, Nat.le_refl _, ?_, by (repeat (first | exact New.refl _ | assumption | refine New.alloc ?_ _ | refine New.drew ?_ | refine New.drewN ?_ _ | refine New.setCell ?_ (by first | omega | (simp; omega) | (simp; done)) _ | refine New.trans ?_ (by assumption)))⟩
    have h := Row.made w n 3
    unfold shareL
    rw [if_pos HS.out, LX.out]
    exact h.new (by (repeat (first | exact New.refl _ | assumption | refine New.alloc ?_ _ | refine New.drew ?_ | refine New.drewN ?_ _ | refine New.setCell ?_ (by first | omega | (simp; omega) | (simp; done)) _ | refine New.trans ?_ (by assumption))))
  · have hs1 : 1 ≤ ws.sum := by omega
    have HS := Lib.hid hs
    have n1 : 1 ≤ n := by
      rcases Nat.eq_zero_or_pos n with h | h
      · have e : ws = [] := List.eq_nil_of_length_eq_zero (by rw [LX.out]; exact h)
        exact absurd (by rw [e]; rfl) hs
      · exact h
    have hsb : (ws.sum == 0) = false := by simpa using hs
    clear hs s0
    go_enter Try.func73, Try.ntmps73
    go_wp2_with fail
    refine (ssum_any A n c ws (by omega) _ (HX.out.new (by (repeat (first | exact New.refl _ | assumption | refine New.alloc ?_ _ | refine New.drew ?_ | refine New.drewN ?_ _ | refine New.setCell ?_ (by first | omega | (simp; omega) | (simp; done)) _ | refine New.trans ?_ (by assumption))))) HW.out.sml).mono ?_
    rintro e w' ⟨rfl, rfl⟩
    go_wp2
    have R0 := (Row.made w n 3).new ((New.refl _).alloc (.cells (madeCells #[.int .i64 0] n) 3))
    have R1 := Row.made (w.alloc (.cells (madeCells #[.int .i64 0] n) 3)) n 3
    have N0 : New w ((w.alloc (.cells (madeCells #[.int .i64 0] n) 3)).alloc (.cells (madeCells #[.int .i64 0] n) 3)) := by (repeat (first | exact New.refl _ | assumption | refine New.alloc ?_ _ | refine New.drew ?_ | refine New.drewN ?_ _ | refine New.setCell ?_ (by first | omega | (simp; omega) | (simp; done)) _ | refine New.trans ?_ (by assumption)))
    simp only [World.size_alloc] at R1
    have R0 := Lib.hid R0; have R1 := Lib.hid R1; have N0 := Lib.hid N0
    clear hmk
    generalize hW : (w.alloc (.cells (madeCells #[Value.int .i64 0] n) 3)).alloc (.cells (madeCells #[.int .i64 0] n) 3) = W at R0 R1 N0 ⊢
    clear hW
    have bb := base_bd a ws ha.1 HW.out HS.out
    have SB := Lib.hid (show Sml (baseL a ws) from fun z hz => by have := bb z hz; omega)
    have BB := Lib.hid bb
    have LB := Lib.hid (baseL_len a ws); have LR := Lib.hid (restL_len a ws)
    clear bb
    obtain ⟨ha0, ha1⟩ := ha
    go_loopw [8, 9] (fun l i wr => ∃ k : Nat, k ≤ n ∧ i = .int .i64 k ∧ l = .int .i64 (a - ((baseL a ws).take k).sum) ∧ Hid (Row wr w.heap.size (upTo k (baseL a ws))) ∧ Hid (Row wr (w.heap.size + 1) (upTo k (restL a ws))) ∧ Hid (New w wr)) (fun _ i _ => n - (intOf i).toNat)
    case atStart => exact ⟨0, Nat.zero_le _, rfl, by simp, Lib.hid (by rw [upTo_zero, LB.out, LX.out]; exact R0.out), Lib.hid (by rw [upTo_zero, LR.out, LX.out]; exact R1.out), N0⟩
    case round =>
      obtain ⟨k, hk, rfl, rfl, HG, HH, HN⟩ := hrel
      have bd := sum_bd SB.out k
      by_cases hlt : k < n
      · obtain ⟨b, off, rfl, hb, hc⟩ := HX.out.at_ (by omega)
        have g := (HN.out.cells b _ hb).trans (hc k hlt)
        have lG := upTo_len k (baseL a ws) (by rw [LB.out, LX.out]; omega)
        have lH := upTo_len k (restL a ws) (by rw [LR.out, LX.out]; omega)
        have fG := HG.out.f k (by rw [lG, LB.out, LX.out]; exact hlt)
        have oG := HG.out.c k (by rw [lG, LB.out, LX.out]; exact hlt)
        have fH := HH.out.f k (by rw [lH, LR.out, LX.out]; exact hlt)
        have oH := HH.out.c k (by rw [lH, LR.out, LX.out]; exact hlt)
        have zb := HW.out.at_ k
        have mb := mul_bd ⟨ha0, ha1⟩ zb
        have eb := baseL_at a ws k (by rw [LX.out]; exact hlt)
        have er := restL_at a ws k (by rw [LX.out]; exact hlt)
        have SG := HG.out.set_ (k := k) (by rw [lG, LB.out, LX.out]; exact hlt) ((baseL a ws).getD k 0)
        rw [upTo_step k _ (by rw [LB.out, LX.out]; exact hlt), eb] at SG
        have SH := (HH.out.far (p := ⟨w.heap.size, k, none⟩) (by simp) (.int .i64 (a * ws.getD k 0 / ws.sum))).set_ (k := k) (by rw [lH, LR.out, LX.out]; exact hlt) ((restL a ws).getD k 0)
        rw [upTo_step k _ (by rw [LR.out, LX.out]; exact hlt), er] at SH
        have SG2 := Lib.hid (SG.far (p := ⟨w.heap.size + 1, k, none⟩) (by simp) (.int .i64 (a * ws.getD k 0 % ws.sum)))
        have SH := Lib.hid SH
        have ss := Lib.hid ((sum_snoc (zs := baseL a ws) (k := k) (by rw [LB.out, LX.out]; exact hlt)).trans (by rw [eb]))
        have qb := getD_of_mem ⟨by omega, by omega⟩ BB.out k
        rw [eb] at qb
        have k0 : (0 : Int) ≤ (k : Int) := by omega
        have k1 : (k : Int) < (n : Int) := by omega
        have k8 : (k : Int) ≤ 8 := by omega
        clear hc lG lH eb er SG
        generalize (upTo k (baseL a ws)).getD k 0 = y1 at oG
        generalize (upTo k (restL a ws)).getD k 0 = y2 at oH
        generalize ws.getD k 0 = z at *
        generalize hS : ((baseL a ws).take k).sum = S at *
        clear hS
        generalize ws.sum = T at *
        go_wp2
        go_roundw
        case rel => exact ⟨k + 1, by omega, by go_num, by rw [ss.out]; exact congrArg (Value.int .i64) (by omega), SG2, SH, Lib.hid ((HN.out.setCell (by simp) _).setCell (by simp) _)⟩
        case measure => simp [intOf]; omega
      · have hk' : k = n := by omega
        subst hk'
        have G0 := HG.out; have H0 := HH.out
        have eG : upTo k (baseL a ws) = baseL a ws := by have h := upTo_all (baseL a ws); rw [LB.out, LX.out] at h; exact h
        have eH : upTo k (restL a ws) = restL a ws := by have h := upTo_all (restL a ws); rw [LR.out, LX.out] at h; exact h
        rw [eG] at G0
        rw [eH] at H0
        have G0 := Lib.hid G0; have H0 := Lib.hid H0
        have eS : ((baseL a ws).take k).sum = (baseL a ws).sum := by rw [List.take_of_length_le (by rw [LB.out, LX.out]; omega)]
        have bl := base_le a ws ha0 HW.out HS.out
        have b0 := sum_nonneg (xs := baseL a ws) fun z hz => (BB.out z hz).1
        rw [eS]
        have eL : a - (baseL a ws).sum = leftL a ws := rfl
        rw [eL]
        have l0 : 0 ≤ leftL a ws ∧ leftL a ws ≤ 200000 := by unfold leftL; omega
        clear eG eH eS bl b0 eL HG HH bd sb hs1 hsb
        obtain ⟨L, hL⟩ := Int.eq_ofNat_of_zero_le l0.1
        have EL := Lib.hid hL
        rw [hL] at l0 ⊢
        clear hL
        have L2 : L ≤ 200000 := by omega
        clear l0
        go_wp2
        go_loopw [8] (fun l wr => ∃ j : Nat, j ≤ L ∧ l = .int .i64 ((L : Int) - (j : Int)) ∧ Hid (Row wr w.heap.size (spinTo j (baseL a ws, restL a ws)).1) ∧ Hid (Row wr (w.heap.size + 1) (spinTo j (baseL a ws, restL a ws)).2) ∧ Hid (New w wr)) (fun l _ => (intOf l).toNat)
        case atStart => exact ⟨0, Nat.zero_le _, by simp, G0, H0, HN⟩
        case round =>
          obtain ⟨j, hj, rfl, HG, HH, HN⟩ := hrel
          by_cases hlt : j < L
          · obtain ⟨ln1, ln2⟩ := spinTo_len j (baseL a ws, restL a ws)
            have bo := spin_bd j (baseL a ws) (restL a ws) 200000 (fun i => by have h := getD_of_mem ⟨by omega, by omega⟩ BB.out i; omega) (amax (spinTo j (baseL a ws, restL a ws)).2)
            have E1 := Lib.hid (show (spinTo (j + 1) (baseL a ws, restL a ws)).1 = (spinTo j (baseL a ws, restL a ws)).1.set (amax (spinTo j (baseL a ws, restL a ws)).2) ((spinTo j (baseL a ws, restL a ws)).1.getD (amax (spinTo j (baseL a ws, restL a ws)).2) 0 + 1) from rfl)
            have E2 := Lib.hid (show (spinTo (j + 1) (baseL a ws, restL a ws)).2 = (spinTo j (baseL a ws, restL a ws)).2.set (amax (spinTo j (baseL a ws, restL a ws)).2) (-1) from rfl)
            have l1 := Lib.hid (ln1.trans (LB.out.trans LX.out)); have l2 := Lib.hid (ln2.trans (LR.out.trans LX.out))
            clear ln1 ln2
            generalize (spinTo j (baseL a ws, restL a ws)).1 = o at *
            generalize (spinTo j (baseL a ws, restL a ws)).2 = r at *
            have j0 : (0 : Int) ≤ (j : Int) := by omega
            have j1 : (j : Int) < (L : Int) := by omega
            go_wp2
            go_loopw [10, 11] (fun t i wi => ∃ p : Nat, p + 1 ≤ k ∧ i = .int .i64 ((p : Int) + 1) ∧ t = .int .i64 (amaxTo r p) ∧ ∃ d, wi = wr.drewN d) (fun _ i _ => k - (intOf i).toNat)
            case atStart => exact ⟨0, by omega, by simp, rfl, 0, rfl⟩
            case round =>
              obtain ⟨p, hp, rfl, rfl, d, rfl⟩ := hrel
              have am := amaxTo_le r p
              have gA := HH.out.c (amaxTo r p) (by rw [l2.out]; omega)
              have p0 : (0 : Int) ≤ (p : Int) := by omega
              have a0 : (0 : Int) ≤ (amaxTo r p : Int) := by omega
              have a1 : (amaxTo r p : Int) < (k : Int) := by omega
              by_cases hlt2 : p + 1 < k
              · have gP := HH.out.c (p + 1) (by rw [l2.out]; omega)
                have p1 : (p : Int) + 1 < (k : Int) := by omega
                by_cases hgt : r.getD (amaxTo r p) 0 < r.getD (p + 1) 0
                · have ea := Lib.hid (show amaxTo r (p + 1) = p + 1 from by show (if _ then _ else _) = _; rw [if_pos hgt])
                  generalize r.getD (amaxTo r p) 0 = x at gA hgt
                  generalize r.getD (p + 1) 0 = y at gP hgt
                  go_wp2
                  go_quiet (fail)
                  go_wp2
                  go_roundw
                  case rel => exact ⟨p + 1, by omega, by go_num, by rw [ea.out]; go_num, _, rfl⟩
                  case measure => simp [intOf]; omega
                · have ea := Lib.hid (show amaxTo r (p + 1) = amaxTo r p from by show (if _ then _ else _) = _; rw [if_neg hgt])
                  generalize r.getD (amaxTo r p) 0 = x at gA hgt
                  generalize r.getD (p + 1) 0 = y at gP hgt
                  go_wp2
                  go_quiet (fail)
                  go_wp2
                  go_roundw
                  case rel => exact ⟨p + 1, by omega, by go_num, by rw [ea.out], _, rfl⟩
                  case measure => simp [intOf]; omega
              · have ep : amax r = amaxTo r p := by unfold amax; rw [l2.out]; congr 1; omega
                have hlr : amaxTo r p < r.length := by rw [l2.out]; omega
                have hlo : amaxTo r p < o.length := by rw [l1.out]; omega
                rw [ep] at bo
                have oc := HG.out.c (amaxTo r p) hlo
                have of := HG.out.f (amaxTo r p) hlo
                have rf := HH.out.f (amaxTo r p) hlr
                have SG := ((HG.out.drewN d).set_ hlo (o.getD (amaxTo r p) 0 + 1)).far (p := ⟨w.heap.size + 1, amaxTo r p, none⟩) (by simp) (.int .i64 (-1))
                have SH := ((HH.out.drewN d).far (p := ⟨w.heap.size, amaxTo r p, none⟩) (by simp) (.int .i64 (o.getD (amaxTo r p) 0 + 1))).set_ hlr (-1)
                have e1 := E1.out; have e2 := E2.out
                rw [ep] at e1 e2
                rw [← e1] at SG
                rw [← e2] at SH
                have SG := Lib.hid SG; have SH := Lib.hid SH
                clear e1 e2 ep hlr hlo am
                generalize r.getD (amaxTo r p) 0 = x at gA
                generalize o.getD (amaxTo r p) 0 = y at *
                generalize amaxTo r p = q at *
                go_wp2
                go_roundw
                case rel => exact ⟨j + 1, by omega, by go_num, SG, SH, Lib.hid (((HN.out.drewN d).setCell (by simp) _).setCell (by simp) _)⟩
                case measure => simp [intOf]; omega
          · have hj' : j = L := by omega
            subst hj'
            go_wp2
            go_ret
            refine ⟨w.heap.size, rfl, Nat.le_refl _, ?_, HN.out⟩
            have h := HG.out
            unfold shareL
            rw [if_neg HS.out, EL.out]
            exact h
end Go.Proofs.Ytnipnemhbelcaaa
