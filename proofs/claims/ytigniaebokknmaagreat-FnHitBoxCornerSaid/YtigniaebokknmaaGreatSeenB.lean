/- Which boxes a view meets: SeenBoxes of the program and of the reference, walked: both answer with the same. Condition: the tree can be read. -/
import Derived.Test.YtigniaebokknmaaGreatYC
import Derived.Test.YtigniaebokknmaaGreatYE
import Derived.Test.YtigniaebokknmaaGreatAppE
import Derived.Test.YtigniaebokknmaaGreatYA
import Derived.Deep.RegionHeld3
namespace Go.Proofs.YtigniaebokknmaaGreat
open Go.RowKit

/-- The box's rectangle has a common point with the view. -/
def snB4 (zs : List Int) (n : Nat) (W H v0 v1 v2 v3 : Int) (i : Nat) : Bool := mOk (layR zs n W H i).1 (layR zs n W H i).2.1 (layR zs n W H i).2.2.1 (layR zs n W H i).2.2.2 v0 v1 v2 v3
def sbTo (zs : List Int) (n : Nat) (W H v0 v1 v2 v3 : Int) (k : Nat) : List Int := ((List.range k).filter (snB4 zs n W H v0 v1 v2 v3)).map Int.ofNat
def sbA (n : Nat) (zs : List Int) (W H v0 v1 v2 v3 : Int) : List Int := if layOk n zs W H = true then sbTo zs n W H v0 v1 v2 v3 n else []
section
variable {zs : List Int} {n k : Nat} {W H v0 v1 v2 v3 : Int}
theorem sbTo_yes (h : snB4 zs n W H v0 v1 v2 v3 k = true) : sbTo zs n W H v0 v1 v2 v3 (k + 1) = sbTo zs n W H v0 v1 v2 v3 k ++ [(k : Int)] := by
  unfold sbTo; rw [List.range_succ, List.filter_append]; simp [h]
theorem sbTo_no (h : snB4 zs n W H v0 v1 v2 v3 k = false) : sbTo zs n W H v0 v1 v2 v3 (k + 1) = sbTo zs n W H v0 v1 v2 v3 k := by
  unfold sbTo; rw [List.range_succ, List.filter_append]; simp [h]
theorem sbTo_len : (sbTo zs n W H v0 v1 v2 v3 k).length ≤ k := by
  unfold sbTo
  rw [List.length_map]
  exact Nat.le_trans (List.length_filter_le _ _) (by rw [List.length_range]; exact Nat.le_refl _)
theorem sbA_len : (sbA n zs W H v0 v1 v2 v3).length ≤ 16 := by
  unfold sbA
  split
  · next h => have := sbTo_len (zs := zs) (n := n) (k := n) (W := W) (H := H) (v0 := v0) (v1 := v1) (v2 := v2) (v3 := v3); have := (vtB_iff.1 (layOk_iff.1 h).1).1; omega
  · simp
theorem sb_bad (h : vR v0 v1 v2 v3 = false) : ∀ k, sbTo zs n W H v0 v1 v2 v3 k = [] := fun k => by
  unfold sbTo
  rw [List.filter_eq_nil_iff.2 (fun i _ => by unfold snB4 mOk; rw [h]; simp)]
  rfl
theorem sb_mem {i : Nat} : (i : Int) ∈ sbTo zs n W H v0 v1 v2 v3 k ↔ i < k ∧ snB4 zs n W H v0 v1 v2 v3 i = true := by
  unfold sbTo
  simp only [List.mem_map, List.mem_filter, List.mem_range]
  refine ⟨fun ⟨j, h, e⟩ => ?_, fun h => ⟨i, h, rfl⟩⟩
  obtain rfl : j = i := by have : ((j : Nat) : Int) = (i : Int) := e; omega
  exact h
end
theorem allRectB {w : World} {g : Nat} {y0 y1 y2 y3 : Int} (h : Row w g [y0, y1, y2, y3]) : w.cell? ⟨g, 0, none⟩ = some (.int .i64 y0) ∧ w.cell? ⟨g, 1, none⟩ = some (.int .i64 y1) ∧ w.cell? ⟨g, 2, none⟩ = some (.int .i64 y2) ∧ w.cell? ⟨g, 3, none⟩ = some (.int .i64 y3) :=
  ⟨by simpa using h.c 0 (by simp), by simpa using h.c 1 (by simp), by simpa using h.c 2 (by simp), by simpa using h.c 3 (by simp)⟩
theorem Own.answ {lo : Nat} {w w1 : World} {v : Value} {zs : List Int} (h : Own lo w1 v zs) (hl : w.heap.size ≤ lo) (hN : New w w1) : Ans w zs (.returned v) w1 := by
  obtain ⟨A, c, rfl, _, Z1, Z2⟩ := h.res
  exact ⟨A, _, c, rfl, rfl, ⟨Z1, fun hz => by obtain ⟨g, e, k1, k2, hR⟩ := Z2 hz; exact ⟨g, e, by omega, k2, hR⟩⟩, hN⟩
set_option maxRecDepth 100000 in
set_option maxHeartbeats 2000000 in
theorem SeenBoxes_ans (A : Option Addr) (n c : Nat) (zs : List Int) (W H v0 v1 v2 v3 : Int) (hn : n ≤ 1048576) (w : World) (hx : Sts 9 w A n zs) :
    Calls Tryz.prog 9 #[.slice A n c, .int .i64 W, .int .i64 H, rc v0 v1 v2 v3] w (Ans w (sbA n zs W H v0 v1 v2 v3)) := by
  have LA := Lib.hid (fun W1 (hW : New w W1) => LayoutTree_ans A n c zs W H hn W1 (hx.new hW))
  have LN := Lib.hid (layA_len (n := n) (zs := zs) (W := W) (H := H))
  have L4 := Lib.hid (flat4_len (layA n zs W H))
  have HX := Lib.hid hx
  have RV := Lib.hid (Row.oneRect w v0 v1 v2 v3 31)
  clear hx
  go_enter Tryz.func9, Tryz.ntmps9
  go_wp2_with fail
  refine (LA.out _ (by (repeat (first | exact New.refl _ | assumption | refine New.alloc ?_ _ | refine New.drew ?_ | refine New.drewN ?_ _ | refine New.setCell ?_ (by first | omega | (simp; omega) | (simp; done)) _ | refine New.trans ?_ (by assumption))))).mono ?_
  rintro e w1 ⟨A1, n1, c1, rfl, l1, r1, N1⟩
  have e1 : (layA n zs W H).length = n1 := by have := L4.out; omega
  have R1 := Lib.hid (Sts.of_res (m := 3) r1 l1)
  have n16 : n1 ≤ 16 := by have := LN.out; omega
  have ni : (n1 : Int) ≤ 16 := by omega
  have nj : (0 : Int) ≤ (n1 : Int) := by omega
  have RV := Lib.hid (RV.out.new N1)
  have NW := Lib.hid (show New w w1 from New.trans (by (repeat (first | exact New.refl _ | assumption | refine New.alloc ?_ _ | refine New.drew ?_ | refine New.drewN ?_ _ | refine New.setCell ?_ (by first | omega | (simp; omega) | (simp; done)) _ | refine New.trans ?_ (by assumption)))) N1)
  have E1 := Lib.hid e1
  have sw := NW.out.le
  clear LA LN L4 l1 r1 N1 e1 HX
  have hE : Hid (sbA n zs W H v0 v1 v2 v3 = sbTo zs n W H v0 v1 v2 v3 n1) := Lib.hid (by
    unfold sbA
    cases h : layOk n zs W H
    · have := E1.out; rw [layA_no h] at this; simp at this; subst this; rfl
    · have := E1.out; rw [layA_yes h] at this; simp at this; rw [if_pos rfl, this])
  go_wp2
  go_loopw [9, 19] (fun v i wr => ∃ k : Nat, k ≤ n1 ∧ i = .int .i64 k ∧ Hid (Own w1.heap.size wr v (sbTo zs n W H v0 v1 v2 v3 k)) ∧ Hid (New w1 wr)) (fun _ i _ => n1 - (intOf i).toNat)
  case atStart => exact ⟨0, Nat.zero_le _, rfl, Lib.hid (Own.nil _ _), Lib.hid (New.refl _)⟩
  case round =>
    obtain ⟨k, hk, rfl, HO, HN⟩ := hrel
    have k0 : (0 : Int) ≤ (k : Int) := by omega
    by_cases hlt : k < n1
    · have k1 : (k : Int) < (n1 : Int) := by omega
      have ok : layOk n zs W H = true := by
        cases h : layOk n zs W H
        · have := E1.out; rw [layA_no h] at this; simp at this; omega
        · rfl
      obtain rfl : n1 = n := by have := E1.out; rw [layA_yes ok] at this; simpa using this.symm
      obtain ⟨b, off, rfl, hb, hc⟩ := R1.out.at_ (by omega)
      have GC := Lib.hid (fun q (hq : q < n1) V (hV : New w1 V) => (show V.cell? ⟨b, off + q * 4, none⟩ = some (.int .i64 ((layR zs n1 W H q).1)) ∧ V.cell? ⟨b, off + q * 4 + 1, none⟩ = some (.int .i64 ((layR zs n1 W H q).2.1)) ∧ V.cell? ⟨b, off + q * 4 + 2, none⟩ = some (.int .i64 ((layR zs n1 W H q).2.2.1)) ∧ V.cell? ⟨b, off + q * 4 + 3, none⟩ = some (.int .i64 ((layR zs n1 W H q).2.2.2)) by
        obtain ⟨v0, v1, v2, v3⟩ := flat4_at (layA n1 zs W H) q
        rw [lay_at ok hq] at v0 v1 v2 v3
        exact ⟨(hV.cells b _ hb).trans ((hc (q * 4) (by omega)).trans (by rw [v0])), (hV.cells b _ hb).trans ((hc (q * 4 + 1) (by omega)).trans (by rw [v1])), (hV.cells b _ hb).trans ((hc (q * 4 + 2) (by omega)).trans (by rw [v2])), (hV.cells b _ hb).trans ((hc (q * 4 + 3) (by omega)).trans (by rw [v3]))⟩))
      have gc := Lib.hid (GC.out k hlt)
      have hbw : b < wr.heap.size := Nat.lt_of_lt_of_le hb HN.out.le
      have hwr := HN.out.le
      have SL := Lib.hid (sbTo_len (zs := zs) (n := n1) (k := k) (W := W) (H := H) (v0 := v0) (v1 := v1) (v2 := v2) (v3 := v3))
      have SB : snB4 zs n1 W H v0 v1 v2 v3 k = mOk (layR zs n1 W H k).1 (layR zs n1 W H k).2.1 (layR zs n1 W H k).2.2.1 (layR zs n1 W H k).2.2.2 v0 v1 v2 v3 := rfl
      obtain ⟨⟨x0, x1, x2, x3⟩, hq⟩ : ∃ q, layR zs n1 W H k = q := ⟨_, rfl⟩
      rw [hq] at SB gc
      clear hq GC hc ok
      obtain ⟨g0, g1, g2, g3⟩ := gc.out wr HN.out
      dsimp only at g0 g1 g2 g3 SB
      obtain ⟨u0, u1, u2, u3⟩ := allRectB (RV.out.new HN.out)
      have uv := (RV.out.new HN.out).lt
      have MS := Lib.hid (fun V => (show Calls Tryz.prog 25 #[.agg #[.int .i64 x0, .int .i64 x1, .int .i64 x2, .int .i64 x3], .agg #[.int .i64 v0, .int .i64 v1, .int .i64 v2, .int .i64 v3]] V fun e V' => (∃ h0 h1 h2 h3 : Int, e = .returned (.tuple #[.agg #[.int .i64 h0, .int .i64 h1, .int .i64 h2, .int .i64 h3], .bool (snB4 zs n1 W H v0 v1 v2 v3 k)])) ∧ New V V' by
        have h := MeetRects_any x0 x1 x2 x3 v0 v1 v2 v3 V
        rw [← SB] at h
        exact h.mono fun e V' ⟨he, hN⟩ => ⟨⟨_, _, _, _, he⟩, hN⟩))
      clear SB
      cases hs : snB4 zs n1 W H v0 v1 v2 v3 k
      · rw [hs] at MS
        have HS := Lib.hid (sbTo_no hs)
        clear hs
        go_wp2_with (go_at_call 25; refine (MS.out _).mono ?_; rintro e wc ⟨⟨h0, h1, h2, h3, rfl⟩, Nc⟩)
        go_roundw
        case rel => exact ⟨k + 1, by omega, by go_num, Lib.hid (by rw [HS.out]; exact HO.out.new (by (repeat (first | exact New.refl _ | assumption | refine New.alloc ?_ _ | refine New.drew ?_ | refine New.drewN ?_ _ | refine New.setCell ?_ (by first | omega | (simp; omega) | (simp; done)) _ | refine New.trans ?_ (by assumption))))), Lib.hid (HN.out.trans (by (repeat (first | exact New.refl _ | assumption | refine New.alloc ?_ _ | refine New.drew ?_ | refine New.drewN ?_ _ | refine New.setCell ?_ (by first | omega | (simp; omega) | (simp; done)) _ | refine New.trans ?_ (by assumption)))))⟩
        case measure => simp [intOf]; omega
      · rw [hs] at MS
        have HS := Lib.hid (sbTo_yes hs)
        clear hs
        go_upto_region 7 with (go_at_call 25; refine (MS.out _).mono ?_; rintro e wc ⟨⟨h0, h1, h2, h3, rfl⟩, Nc⟩)
        have NX := Lib.hid (show New wr (wc.alloc (.cells #[.int .i64 h0, .int .i64 h1, .int .i64 h2, .int .i64 h3] 31)) by (repeat (first | exact New.refl _ | assumption | refine New.alloc ?_ _ | refine New.drew ?_ | refine New.drewN ?_ _ | refine New.setCell ?_ (by first | omega | (simp; omega) | (simp; done)) _ | refine New.trans ?_ (by assumption))))
        generalize wc.alloc (.cells #[.int .i64 h0, .int .i64 h1, .int .i64 h2, .int .i64 h3] 31) = W5 at NX ⊢
        have HOW := Lib.hid (HO.out.new NX.out)
        have HNW := Lib.hid (HN.out.trans NX.out)
        have zw := HNW.out.le
        clear HO HN NX Nc g0 g1 g2 g3 u0 u1 u2 u3
        go_wp2_with (at_builtin; refine wp_app rfl _ _ rfl w1.heap.size _ _ rfl (HOW.out.alloc _) (some ⟨W5.heap.size, 0, none⟩) 1 1 [(k : Int)] rfl (Ints.one _ _ _) (by have := SL.out; omega) (by simp; omega) ?_; intro v' w' ho hg)
        go_roundw
        case rel => exact ⟨k + 1, by omega, by go_num, by rw [HS.out]; exact Lib.hid ho, Lib.hid (new_own (HNW.out.alloc _) hg (HOW.out.alloc _) (Nat.le_refl _))⟩
        case measure => simp [intOf]; omega
    · obtain rfl : n1 = k := by omega
      have HF := Lib.hid (Own.answ HO.out (w := w) NW.out.le (NW.out.trans HN.out))
      obtain ⟨A2, c2, rfl, -, -⟩ := HO.out.res
      go_wp2
      go_ret
      rw [hE.out]
      exact HF.out
end Go.Proofs.YtigniaebokknmaaGreat
