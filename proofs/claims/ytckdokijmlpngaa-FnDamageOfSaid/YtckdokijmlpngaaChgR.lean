/- At which numbers two rows of rectangles differ: ChangedRects of the program and of the reference, walked. Condition: the rows can be read. -/
import Derived.Test.YtckdokijmlpngaaPntV
import Derived.Test.YtckdokijmlpngaaApp
import Derived.Test.YtckdokijmlpngaaFacts
import Derived.Deep.QuietTactic
import Derived.BigQuiet
namespace Go.Proofs.Ytckdokijmlpngaa
open Go.RowKit

/-- A list of the call's own is its answer. -/
theorem Own.ans {lo : Nat} {w w1 : World} {v : Value} {zs : List Int} (h : Own lo w1 v zs) (hl : w.heap.size ≤ lo) (hN : New w w1) : Ans w zs (.returned v) w1 := by
  obtain ⟨A, c, rfl, _, Z1, Z2⟩ := h.res
  exact ⟨A, _, c, rfl, rfl, ⟨Z1, fun hz => by obtain ⟨g, e, k1, k2, hR⟩ := Z2 hz; exact ⟨g, e, by omega, k2, hR⟩⟩, hN⟩
set_option maxRecDepth 100000 in
set_option maxHeartbeats 4000000 in
theorem ChangedRects_ans (A B : Option Addr) (n c m d : Nat) (xs ys : List Int) (hn : n ≤ 1048576) (hm : m ≤ 1048576) (w : World) (hx : Sts 4 w A n xs) (hy : Sts 4 w B m ys) :
    Calls Try.prog 18 #[.slice A n c, .slice B m d] w (Ans w (chgA n m xs ys)) := by
  have HX := Lib.hid hx; have HY := Lib.hid hy
  clear hx hy
  by_cases hnm : n = m
  rotate_left
  · have E : Hid (chgA n m xs ys = []) := Lib.hid (by unfold chgA; rw [if_neg (fun h => hnm (chgOk_iff.1 h).1)])
    have hb : ((n : Int) != (m : Int)) = true := by simp; omega
    have hb2 : ((n : Int) == (m : Int)) = false := by simp; omega
    clear hnm
    go_enter Try.func18, Try.ntmps18
    go_wp2
    go_ret
    rw [E.out]
    exact Ans.none_ rfl (New.refl _)
  subst hnm
  cases h1 : rsB 16 n xs
  · have E : Hid (chgA n n xs ys = []) := Lib.hid (by unfold chgA; rw [if_neg (fun h => by rw [(chgOk_iff.1 h).2.1] at h1; cases h1)])
    have h1 := Lib.hid h1
    go_enter Try.func18, Try.ntmps18
    go_wp2_with fail
    refine (validRects_any A n c xs 16 hn _ HX.out).mono ?_
    rw [h1.out]
    rintro e w1 ⟨rfl, N1⟩
    have N1 := Lib.hid N1
    go_wp2
    go_ret
    rw [E.out]
    exact Ans.none_ rfl N1.out
  cases h2 : rsB 16 n ys
  · have E : Hid (chgA n n xs ys = []) := Lib.hid (by unfold chgA; rw [if_neg (fun h => by rw [(chgOk_iff.1 h).2.2] at h2; cases h2)])
    have h1 := Lib.hid h1; have h2 := Lib.hid h2
    go_enter Try.func18, Try.ntmps18
    go_wp2_with fail
    refine (validRects_any A n c xs 16 hn _ HX.out).mono ?_
    rw [h1.out]
    rintro e w1 ⟨rfl, N1⟩
    have HY1 := Lib.hid (HY.out.new N1)
    have N1 := Lib.hid N1
    go_wp2_with fail
    refine (validRects_any B n d ys 16 hn _ HY1.out).mono ?_
    rw [h2.out]
    rintro e w2 ⟨rfl, N2⟩
    have N2 := Lib.hid (N1.out.trans N2)
    go_wp2
    go_ret
    rw [E.out]
    exact Ans.none_ rfl N2.out
  have E : Hid (chgA n n xs ys = chgTo xs ys n) := Lib.hid (by unfold chgA; rw [if_pos (chgOk_iff.2 ⟨rfl, h1, h2⟩)])
  have n16 : (n : Int) ≤ 16 := (rsB_iff.1 h1).1
  have h1 := Lib.hid h1; have h2 := Lib.hid h2
  go_enter Try.func18, Try.ntmps18
  go_wp2_with fail
  refine (validRects_any A n c xs 16 hn _ HX.out).mono ?_
  rw [h1.out]
  rintro e w1 ⟨rfl, N1⟩
  have HX1 := Lib.hid (HX.out.new N1); have HY1 := Lib.hid (HY.out.new N1)
  have N1 := Lib.hid N1
  go_wp2_with fail
  refine (validRects_any B n d ys 16 hn _ HY1.out).mono ?_
  rw [h2.out]
  rintro e w2 ⟨rfl, N2⟩
  have HX2 := Lib.hid (HX1.out.new N2); have HY2 := Lib.hid (HY1.out.new N2)
  have N2 := Lib.hid (N1.out.trans N2)
  clear HX HY HX1 HY1 N1 h1 h2
  go_wp2
  go_loopw [5, 25] (fun o i wr => ∃ k : Nat, k ≤ n ∧ i = .int .i64 k ∧ Hid (Own w2.heap.size wr o (chgTo xs ys k)) ∧ Hid (New w2 wr)) (fun _ i _ => n - (intOf i).toNat)
  case atStart => exact ⟨0, Nat.zero_le _, rfl, Lib.hid (Own.nil _ _), Lib.hid (New.refl _)⟩
  case round =>
    obtain ⟨k, hk, rfl, HO, HN⟩ := hrel
    have LO := chgTo_len xs ys k
    have zr : w2.heap.size ≤ wr.heap.size := HN.out.le
    by_cases hlt : k < n
    · have k0 : (0 : Int) ≤ (k : Int) := by omega
      have k1 : (k : Int) < (n : Int) := by omega
      obtain ⟨b, off, rfl, hb, hc⟩ := HX2.out.at_ (by omega)
      obtain ⟨b', off', rfl, hb', hc'⟩ := HY2.out.at_ (by omega)
      have hbw : b < wr.heap.size := Nat.lt_of_lt_of_le hb HN.out.le
      have hbw' : b' < wr.heap.size := Nat.lt_of_lt_of_le hb' HN.out.le
      have g0 : wr.cell? ⟨b, off + k * 4, none⟩ = some (.int .i64 (xs.getD (k * 4) 0)) := (HN.out.cells b _ hb).trans (hc (k * 4) (by have := idx_lt (m := 4) (j := 0) hlt (by omega); omega))
      have g1 : wr.cell? ⟨b, off + k * 4 + 1, none⟩ = some (.int .i64 (xs.getD (k * 4 + 1) 0)) := (HN.out.cells b _ hb).trans (hc (k * 4 + 1) (by have := idx_lt (m := 4) (j := 1) hlt (by omega); omega))
      have g2 : wr.cell? ⟨b, off + k * 4 + 2, none⟩ = some (.int .i64 (xs.getD (k * 4 + 2) 0)) := (HN.out.cells b _ hb).trans (hc (k * 4 + 2) (by have := idx_lt (m := 4) (j := 2) hlt (by omega); omega))
      have g3 : wr.cell? ⟨b, off + k * 4 + 3, none⟩ = some (.int .i64 (xs.getD (k * 4 + 3) 0)) := (HN.out.cells b _ hb).trans (hc (k * 4 + 3) (by have := idx_lt (m := 4) (j := 3) hlt (by omega); omega))
      have o0 : wr.cell? ⟨b', off' + k * 4, none⟩ = some (.int .i64 (ys.getD (k * 4) 0)) := (HN.out.cells b' _ hb').trans (hc' (k * 4) (by have := idx_lt (m := 4) (j := 0) hlt (by omega); omega))
      have o1 : wr.cell? ⟨b', off' + k * 4 + 1, none⟩ = some (.int .i64 (ys.getD (k * 4 + 1) 0)) := (HN.out.cells b' _ hb').trans (hc' (k * 4 + 1) (by have := idx_lt (m := 4) (j := 1) hlt (by omega); omega))
      have o2 : wr.cell? ⟨b', off' + k * 4 + 2, none⟩ = some (.int .i64 (ys.getD (k * 4 + 2) 0)) := (HN.out.cells b' _ hb').trans (hc' (k * 4 + 2) (by have := idx_lt (m := 4) (j := 2) hlt (by omega); omega))
      have o3 : wr.cell? ⟨b', off' + k * 4 + 3, none⟩ = some (.int .i64 (ys.getD (k * 4 + 3) 0)) := (HN.out.cells b' _ hb').trans (hc' (k * 4 + 3) (by have := idx_lt (m := 4) (j := 3) hlt (by omega); omega))
      clear hc hc' hb hb'
      cases hs : same4 xs ys k
      · have HS := Lib.hid (chgTo_yes hs)
        have hd := of_decide_eq_false hs
        clear hs
        generalize xs.getD (k * 4) 0 = y0 at g0 hd
        generalize xs.getD (k * 4 + 1) 0 = y1 at g1 hd
        generalize xs.getD (k * 4 + 2) 0 = y2 at g2 hd
        generalize xs.getD (k * 4 + 3) 0 = y3 at g3 hd
        generalize ys.getD (k * 4) 0 = z0 at o0 hd
        generalize ys.getD (k * 4 + 1) 0 = z1 at o1 hd
        generalize ys.getD (k * 4 + 2) 0 = z2 at o2 hd
        generalize ys.getD (k * 4 + 3) 0 = z3 at o3 hd
        have hd1 := fun W => (neq_rect y0 y1 y2 y3 z0 z1 z2 z3 W).trans (by rw [decide_eq_false hd]; rfl : _ = Result.ok (.bool true) W)
        clear hd
        go_wp2
        go_quiet (fail)
        have NX := Lib.hid (show New wr ((wr.alloc (.cells #[.int .i64 y0, .int .i64 y1, .int .i64 y2, .int .i64 y3] 34)).drewN nq) by (repeat (first | exact New.refl _ | assumption | refine New.alloc ?_ _ | refine New.drew ?_ | refine New.drewN ?_ _ | refine New.setCell ?_ (by first | omega | (simp; omega) | (simp; done)) _ | refine New.trans ?_ (by assumption))))
        generalize (wr.alloc (.cells #[.int .i64 y0, .int .i64 y1, .int .i64 y2, .int .i64 y3] 34)).drewN nq = W at NX ⊢
        have HOW := Lib.hid (HO.out.new NX.out)
        have HNW := Lib.hid (HN.out.trans NX.out)
        have zw := NX.out.le
        clear HO HN NX
        go_wp2_with (at_builtin; refine wp_app rfl _ _ rfl (w2.heap.size) _ _ rfl (HOW.out.alloc _) (some ⟨W.heap.size, 0, none⟩) 1 1 [(k : Int)] rfl (Ints.one _ _ _) (by omega) (by simp; omega) ?_; intro v' w' ho hg)
        go_roundw
        case rel => exact ⟨k + 1, by omega, by go_num, by rw [HS.out]; exact Lib.hid ho, Lib.hid (new_own (HNW.out.alloc _) hg (HOW.out.alloc _) (Nat.le_refl _))⟩
        case measure => simp [intOf]; omega
      · have HS := Lib.hid (chgTo_no hs)
        obtain ⟨e0, e1, e2, e3⟩ := of_decide_eq_true hs
        rw [← e0] at o0; rw [← e1] at o1; rw [← e2] at o2; rw [← e3] at o3
        clear hs e0 e1 e2 e3
        generalize xs.getD (k * 4) 0 = y0 at g0 o0
        generalize xs.getD (k * 4 + 1) 0 = y1 at g1 o1
        generalize xs.getD (k * 4 + 2) 0 = y2 at g2 o2
        generalize xs.getD (k * 4 + 3) 0 = y3 at g3 o3
        go_wp2
        go_quiet (fail)
        go_wp2
        go_roundw
        case rel => exact ⟨k + 1, by omega, by go_num, by rw [HS.out]; exact Lib.hid (HO.out.new (by (repeat (first | exact New.refl _ | assumption | refine New.alloc ?_ _ | refine New.drew ?_ | refine New.drewN ?_ _ | refine New.setCell ?_ (by first | omega | (simp; omega) | (simp; done)) _ | refine New.trans ?_ (by assumption))))), Lib.hid (HN.out.trans (by (repeat (first | exact New.refl _ | assumption | refine New.alloc ?_ _ | refine New.drew ?_ | refine New.drewN ?_ _ | refine New.setCell ?_ (by first | omega | (simp; omega) | (simp; done)) _ | refine New.trans ?_ (by assumption)))))⟩
        case measure => simp [intOf]; omega
    · obtain rfl : n = k := by omega
      have HF := Lib.hid (Own.ans HO.out (w := w) N2.out.le (N2.out.trans HN.out))
      obtain ⟨A2, c2, rfl, -, -⟩ := HO.out.res
      go_wp2
      go_ret
      rw [E.out]
      exact HF.out
set_option maxRecDepth 100000 in
set_option maxHeartbeats 4000000 in
theorem SChangedRects_ans (A B : Option Addr) (n c m d : Nat) (xs ys : List Int) (hn : n ≤ 1048576) (hm : m ≤ 1048576) (w : World) (hx : Sts 4 w A n xs) (hy : Sts 4 w B m ys) :
    Calls Try.prog 16 #[.slice A n c, .slice B m d] w (Ans w (chgA n m xs ys)) := by
  have HX := Lib.hid hx; have HY := Lib.hid hy
  clear hx hy
  have N0 := Lib.hid (show New w (w.alloc (.cells #[] 3)) by (repeat (first | exact New.refl _ | assumption | refine New.alloc ?_ _ | refine New.drew ?_ | refine New.drewN ?_ _ | refine New.setCell ?_ (by first | omega | (simp; omega) | (simp; done)) _ | refine New.trans ?_ (by assumption))))
  have OE := Lib.hid (Own.empty (lo := w.heap.size) w 0 (Nat.le_refl _) rfl)
  cases h1 : chgOk n m xs ys
  · have E : Hid (chgA n m xs ys = []) := Lib.hid (by unfold chgA; rw [h1]; rfl)
    have h1 := Lib.hid h1
    go_enter Try.func16, Try.ntmps16
    go_wp2_with fail
    refine (svalidRects_any A B n c m d xs ys hn hm _ (HX.out.new N0.out) (HY.out.new N0.out)).mono ?_
    rw [h1.out]
    rintro e w1 ⟨rfl, N1⟩
    have N1 := Lib.hid (N0.out.trans N1)
    go_wp2
    go_ret
    rw [E.out]
    exact Ans.none_ rfl N1.out
  have E : Hid (chgA n m xs ys = chgTo xs ys n) := Lib.hid (by unfold chgA; rw [if_pos h1])
  obtain rfl : n = m := (chgOk_iff.1 h1).1
  have n16 : (n : Int) ≤ 16 := (rsB_iff.1 (chgOk_iff.1 h1).2.1).1
  have h1 := Lib.hid h1
  go_enter Try.func16, Try.ntmps16
  go_wp2_with fail
  refine (svalidRects_any A B n c n d xs ys hn hm _ (HX.out.new N0.out) (HY.out.new N0.out)).mono ?_
  rw [h1.out]
  rintro e w2 ⟨rfl, N1⟩
  have OE2 := Lib.hid (OE.out.new N1)
  have N2 := Lib.hid (N0.out.trans N1)
  clear OE N0 N1 h1
  go_wp2
  go_loopw [5, 6] (fun o i wr => ∃ k : Nat, k ≤ n ∧ i = .int .i64 k ∧ Hid (Own w.heap.size wr o (chgTo xs ys k)) ∧ Hid (New w wr)) (fun _ i _ => n - (intOf i).toNat)
  case atStart => exact ⟨0, Nat.zero_le _, rfl, OE2, N2⟩
  case round =>
    obtain ⟨k, hk, rfl, HO, HN⟩ := hrel
    have LO := chgTo_len xs ys k
    have zr : w.heap.size ≤ wr.heap.size := HN.out.le
    by_cases hlt : k < n
    · have k0 : (0 : Int) ≤ (k : Int) := by omega
      have k1 : (k : Int) < (n : Int) := by omega
      obtain ⟨b, off, rfl, hb, hc⟩ := HX.out.at_ (by omega)
      obtain ⟨b', off', rfl, hb', hc'⟩ := HY.out.at_ (by omega)
      have hbw : b < wr.heap.size := Nat.lt_of_lt_of_le hb HN.out.le
      have hbw' : b' < wr.heap.size := Nat.lt_of_lt_of_le hb' HN.out.le
      have g0 : wr.cell? ⟨b, off + k * 4, none⟩ = some (.int .i64 (xs.getD (k * 4) 0)) := (HN.out.cells b _ hb).trans (hc (k * 4) (by have := idx_lt (m := 4) (j := 0) hlt (by omega); omega))
      have g1 : wr.cell? ⟨b, off + k * 4 + 1, none⟩ = some (.int .i64 (xs.getD (k * 4 + 1) 0)) := (HN.out.cells b _ hb).trans (hc (k * 4 + 1) (by have := idx_lt (m := 4) (j := 1) hlt (by omega); omega))
      have g2 : wr.cell? ⟨b, off + k * 4 + 2, none⟩ = some (.int .i64 (xs.getD (k * 4 + 2) 0)) := (HN.out.cells b _ hb).trans (hc (k * 4 + 2) (by have := idx_lt (m := 4) (j := 2) hlt (by omega); omega))
      have g3 : wr.cell? ⟨b, off + k * 4 + 3, none⟩ = some (.int .i64 (xs.getD (k * 4 + 3) 0)) := (HN.out.cells b _ hb).trans (hc (k * 4 + 3) (by have := idx_lt (m := 4) (j := 3) hlt (by omega); omega))
      have o0 : wr.cell? ⟨b', off' + k * 4, none⟩ = some (.int .i64 (ys.getD (k * 4) 0)) := (HN.out.cells b' _ hb').trans (hc' (k * 4) (by have := idx_lt (m := 4) (j := 0) hlt (by omega); omega))
      have o1 : wr.cell? ⟨b', off' + k * 4 + 1, none⟩ = some (.int .i64 (ys.getD (k * 4 + 1) 0)) := (HN.out.cells b' _ hb').trans (hc' (k * 4 + 1) (by have := idx_lt (m := 4) (j := 1) hlt (by omega); omega))
      have o2 : wr.cell? ⟨b', off' + k * 4 + 2, none⟩ = some (.int .i64 (ys.getD (k * 4 + 2) 0)) := (HN.out.cells b' _ hb').trans (hc' (k * 4 + 2) (by have := idx_lt (m := 4) (j := 2) hlt (by omega); omega))
      have o3 : wr.cell? ⟨b', off' + k * 4 + 3, none⟩ = some (.int .i64 (ys.getD (k * 4 + 3) 0)) := (HN.out.cells b' _ hb').trans (hc' (k * 4 + 3) (by have := idx_lt (m := 4) (j := 3) hlt (by omega); omega))
      clear hc hc' hb hb'
      cases hs : same4 xs ys k
      · have HS := Lib.hid (chgTo_yes hs)
        have hd := of_decide_eq_false hs
        clear hs
        generalize xs.getD (k * 4) 0 = y0 at g0 hd
        generalize xs.getD (k * 4 + 1) 0 = y1 at g1 hd
        generalize xs.getD (k * 4 + 2) 0 = y2 at g2 hd
        generalize xs.getD (k * 4 + 3) 0 = y3 at g3 hd
        generalize ys.getD (k * 4) 0 = z0 at o0 hd
        generalize ys.getD (k * 4 + 1) 0 = z1 at o1 hd
        generalize ys.getD (k * 4 + 2) 0 = z2 at o2 hd
        generalize ys.getD (k * 4 + 3) 0 = z3 at o3 hd
        have hd1 := fun W => (neq_rect y0 y1 y2 y3 z0 z1 z2 z3 W).trans (by rw [decide_eq_false hd]; rfl : _ = Result.ok (.bool true) W)
        clear hd
        go_wp2
        go_quiet (fail)
        have NX := Lib.hid (show New wr (wr.drewN nq) by (repeat (first | exact New.refl _ | assumption | refine New.alloc ?_ _ | refine New.drew ?_ | refine New.drewN ?_ _ | refine New.setCell ?_ (by first | omega | (simp; omega) | (simp; done)) _ | refine New.trans ?_ (by assumption))))
        generalize wr.drewN nq = W at NX ⊢
        have HOW := Lib.hid (HO.out.new NX.out)
        have HNW := Lib.hid (HN.out.trans NX.out)
        have zw := NX.out.le
        clear HO HN NX
        go_wp2_with (at_builtin; refine wp_app rfl _ _ rfl (w.heap.size) _ _ rfl (HOW.out.alloc _) (some ⟨W.heap.size, 0, none⟩) 1 1 [(k : Int)] rfl (Ints.one _ _ _) (by omega) (by simp; omega) ?_; intro v' w' ho hg)
        go_roundw
        case rel => exact ⟨k + 1, by omega, by go_num, by rw [HS.out]; exact Lib.hid ho, Lib.hid (new_own (HNW.out.alloc _) hg (HOW.out.alloc _) (Nat.le_refl _))⟩
        case measure => simp [intOf]; omega
      · have HS := Lib.hid (chgTo_no hs)
        obtain ⟨e0, e1, e2, e3⟩ := of_decide_eq_true hs
        rw [← e0] at o0; rw [← e1] at o1; rw [← e2] at o2; rw [← e3] at o3
        clear hs e0 e1 e2 e3
        generalize xs.getD (k * 4) 0 = y0 at g0 o0
        generalize xs.getD (k * 4 + 1) 0 = y1 at g1 o1
        generalize xs.getD (k * 4 + 2) 0 = y2 at g2 o2
        generalize xs.getD (k * 4 + 3) 0 = y3 at g3 o3
        go_wp2
        go_quiet (fail)
        go_wp2
        go_roundw
        case rel => exact ⟨k + 1, by omega, by go_num, by rw [HS.out]; exact Lib.hid (HO.out.new (by (repeat (first | exact New.refl _ | assumption | refine New.alloc ?_ _ | refine New.drew ?_ | refine New.drewN ?_ _ | refine New.setCell ?_ (by first | omega | (simp; omega) | (simp; done)) _ | refine New.trans ?_ (by assumption))))), Lib.hid (HN.out.trans (by (repeat (first | exact New.refl _ | assumption | refine New.alloc ?_ _ | refine New.drew ?_ | refine New.drewN ?_ _ | refine New.setCell ?_ (by first | omega | (simp; omega) | (simp; done)) _ | refine New.trans ?_ (by assumption)))))⟩
        case measure => simp [intOf]; omega
    · obtain rfl : n = k := by omega
      have HF := Lib.hid (Own.ans HO.out (w := w) (Nat.le_refl _) (HN.out))
      obtain ⟨A2, c2, rfl, -, -⟩ := HO.out.res
      go_wp2
      go_ret
      rw [E.out]
      exact HF.out
end Go.Proofs.Ytckdokijmlpngaa
