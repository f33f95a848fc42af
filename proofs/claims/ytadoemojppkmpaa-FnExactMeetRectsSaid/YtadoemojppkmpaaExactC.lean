/- The law FnExactMeetRects, walked: whatever the two rectangles, both answers are the same. No condition. -/
import Derived.Test.YtadoemojppkmpaaExactB
import Derived.Deep.RegionHeld3
import Derived.Deep.DeepCutAuto
namespace Go.Proofs.Ytadoemojppkmpaa
open Go.RowKit

/-- What the two boxed arguments hold. -/
abbrev Box8 (u w : World) (ax ay aw ah bx by' bw bh : Int) (w' : World) : Prop := New u w' ∧ w'.cell? ⟨w.heap.size, 0, none⟩ = some (.int .i64 ax) ∧ w'.cell? ⟨w.heap.size, 1, none⟩ = some (.int .i64 ay) ∧ w'.cell? ⟨w.heap.size, 2, none⟩ = some (.int .i64 aw) ∧ w'.cell? ⟨w.heap.size, 3, none⟩ = some (.int .i64 ah) ∧ w'.cell? ⟨w.heap.size + 1, 0, none⟩ = some (.int .i64 bx) ∧ w'.cell? ⟨w.heap.size + 1, 1, none⟩ = some (.int .i64 by') ∧ w'.cell? ⟨w.heap.size + 1, 2, none⟩ = some (.int .i64 bw) ∧ w'.cell? ⟨w.heap.size + 1, 3, none⟩ = some (.int .i64 bh) ∧ w.heap.size + 1 < w'.heap.size
theorem box8_keep {u w w1 w2 : World} {ax ay aw ah bx by' bw bh : Int} (hb : New w1 w2) (h : Box8 u w ax ay aw ah bx by' bw bh w1) : Box8 u w ax ay aw ah bx by' bw bh w2 := by
  obtain ⟨h0, h1, h2, h3, h4, h5, h6, h7, h8, h9⟩ := h
  have hz := hb.le
  have c := hb.cells
  exact ⟨h0.trans hb, (c _ _ (by omega)).trans h1, (c _ _ (by omega)).trans h2, (c _ _ (by omega)).trans h3, (c _ _ (by omega)).trans h4, (c _ _ (by omega)).trans h5, (c _ _ (by omega)).trans h6, (c _ _ (by omega)).trans h7, (c _ _ (by omega)).trans h8, by omega⟩
theorem box8_set {u w w1 : World} {ax ay aw ah bx by' bw bh : Int} {q : Addr} {v : Value} (hu : u.heap.size ≤ q.block) (hq : w.heap.size + 1 < q.block) (h : Box8 u w ax ay aw ah bx by' bw bh w1) : Box8 u w ax ay aw ah bx by' bw bh (w1.setCell q v) := by
  obtain ⟨h0, h1, h2, h3, h4, h5, h6, h7, h8, h9⟩ := h
  have c : ∀ k o, k < w.heap.size + 1 + 1 → (w1.setCell q v).cell? ⟨k, o, none⟩ = w1.cell? ⟨k, o, none⟩ := fun k o hk => World.cell?_of_block (Below.heap_setCell _ _ _ _ (by simp; omega))
  exact ⟨h0.setCell hu v, (c _ _ (by omega)).trans h1, (c _ _ (by omega)).trans h2, (c _ _ (by omega)).trans h3, (c _ _ (by omega)).trans h4, (c _ _ (by omega)).trans h5, (c _ _ (by omega)).trans h6, (c _ _ (by omega)).trans h7, (c _ _ (by omega)).trans h8, by simpa [World.setCell] using h9⟩

theorem box8_lay {u w w1 : World} {ax ay aw ah bx by' bw bh : Int} {o o' : Obj} (hu : u.heap.size ≤ w1.heap.size) (hz : w.heap.size + 1 < w1.heap.size) (h : Box8 u w ax ay aw ah bx by' bw bh (w1.alloc o)) : Box8 u w ax ay aw ah bx by' bw bh (w1.alloc o') := by
  obtain ⟨h0, h1, h2, h3, h4, h5, h6, h7, h8, h9⟩ := h
  have c : ∀ k i, k < w1.heap.size → (w1.alloc o').cell? ⟨k, i, none⟩ = (w1.alloc o).cell? ⟨k, i, none⟩ := fun k i hk => (World.cell?_alloc_lt w1 o' ⟨k, i, none⟩ hk).trans (World.cell?_alloc_lt w1 o ⟨k, i, none⟩ hk).symm
  have n0 : New u (w1.alloc o') := ⟨h0.os, h0.tape, h0.output, by simp; omega, fun k hk => (Below.heap_alloc w1 o' k (by omega)).trans ((Below.heap_alloc w1 o k (by omega)).symm.trans (h0.block k hk))⟩
  exact ⟨n0, (c _ _ (by omega)).trans h1, (c _ _ (by omega)).trans h2, (c _ _ (by omega)).trans h3, (c _ _ (by omega)).trans h4, (c _ _ (by omega)).trans h5, (c _ _ (by omega)).trans h6, (c _ _ (by omega)).trans h7, (c _ _ (by omega)).trans h8, by simp; omega⟩

set_option maxHeartbeats 4000000 in
theorem lawExactMeetRects (ax ay aw ah bx by' bw bh : Int) (w : World) :
    Calls Try.prog 17 #[rc ax ay aw ah, rc bx by' bw bh] w fun e w' => e = .returned (.bool true) ∧ New w w' := by
  go_enter Try.func17, Try.ntmps17
  go_wp2
  go_cut [5, 6] (fun s5 s6 wx => ∃ g : Nat, s5 = .pointer (some ⟨g, 0, none⟩) ∧ s6 = .bool (mOk ax ay aw ah bx by' bw bh) ∧ w.heap.size + 1 < g ∧ g < wx.heap.size ∧ Box8 w w ax ay aw ah bx by' bw bh wx ∧
    wx.cell? ⟨g, 0, none⟩ = some (.int .i64 (mA ax ay aw ah bx by' bw bh)) ∧ wx.cell? ⟨g, 1, none⟩ = some (.int .i64 (mB ax ay aw ah bx by' bw bh)) ∧ wx.cell? ⟨g, 2, none⟩ = some (.int .i64 (mC ax ay aw ah bx by' bw bh)) ∧ wx.cell? ⟨g, 3, none⟩ = some (.int .i64 (mD ax ay aw ah bx by' bw bh)))
  case first =>
    go_region_held3 (fun w' => New w w' ∧ w'.cell? ⟨w.heap.size, 0, none⟩ = some (.int .i64 ax) ∧ w'.cell? ⟨w.heap.size, 1, none⟩ = some (.int .i64 ay) ∧ w'.cell? ⟨w.heap.size, 2, none⟩ = some (.int .i64 aw) ∧ w'.cell? ⟨w.heap.size, 3, none⟩ = some (.int .i64 ah) ∧ w'.cell? ⟨w.heap.size + 1, 0, none⟩ = some (.int .i64 bx) ∧ w'.cell? ⟨w.heap.size + 1, 1, none⟩ = some (.int .i64 by') ∧ w'.cell? ⟨w.heap.size + 1, 2, none⟩ = some (.int .i64 bw) ∧ w'.cell? ⟨w.heap.size + 1, 3, none⟩ = some (.int .i64 bh) ∧ w.heap.size + 1 < w'.heap.size)
      (first
        | (with_reducible exact box8_keep hb (by assumption))
        | (with_reducible assumption)
        | (with_reducible exact box8_keep ((New.refl _).alloc _) (by assumption))
        | (exact box8_set (by first | omega | (simp; omega) | (simp; done)) (by first | omega | (simp; omega) | (simp; done)) (box8_set (by first | omega | (simp; omega) | (simp; done)) (by first | omega | (simp; omega) | (simp; done)) (box8_set (by first | omega | (simp; omega) | (simp; done)) (by first | omega | (simp; omega) | (simp; done)) (box8_set (by first | omega | (simp; omega) | (simp; done)) (by first | omega | (simp; omega) | (simp; done)) (by assumption)))))
        | (exact box8_lay (by omega) (by omega) (by assumption))
        | (refine ⟨by (repeat (first | exact New.refl _ | assumption | refine New.alloc ?_ _ | refine New.drew ?_ | refine New.drewN ?_ _ | refine New.setCell ?_ (by first | omega | (simp; omega) | (simp; done)) _ | refine New.trans ?_ (by assumption))), ?_⟩; simp [go_sem]; done)
        | (refine ⟨by (repeat (first | exact New.refl _ | assumption | refine New.alloc ?_ _ | refine New.drew ?_ | refine New.drewN ?_ _ | refine New.setCell ?_ (by first | omega | (simp; omega) | (simp; done)) _ | refine New.trans ?_ (by assumption))), ?_⟩; simp [go_sem, *]; done))
      (first
        | (go_at_call_of 36 (Value.agg #[Value.int IntKind.i64 ax, Value.int IntKind.i64 ay, Value.int IntKind.i64 aw, Value.int IntKind.i64 ah]); go_call toRect_any as e w1 ⟨rfl, hb⟩; have cc1 := hb.cells; have ff1 := hb.marks; have zz1 := hb.le; (try simp at zz1); (try (have : w.heap.size + 1 + 1 < w1.heap.size := (by omega))))
        | (go_at_call_of 36 (Value.agg #[Value.int IntKind.i64 bx, Value.int IntKind.i64 by', Value.int IntKind.i64 bw, Value.int IntKind.i64 bh]); go_call toRect_any as e w2 ⟨rfl, hb⟩; have cc2 := hb.cells; have ff2 := hb.marks; have zz2 := hb.le; (try simp at zz2); (try (have : w.heap.size + 1 + 1 < w2.heap.size := (by omega))); (try (have : w1.heap.size < w2.heap.size := (by omega))))
        | (go_at_call 28; go_call SMeetRects_any as e w3 ⟨rfl, hb⟩; have cc3 := hb.cells; have ff3 := hb.marks; have zz3 := hb.le; (try simp at zz3); (try (have : w.heap.size + 1 + 1 < w3.heap.size := (by omega))); (try (have : w1.heap.size < w3.heap.size := (by omega))); (try (have : w2.heap.size < w3.heap.size := (by omega)))))
    all_goals
      go_wp2_with fail
      go_meet
      refine ⟨_, rfl, rfl, ?_, ?_, by assumption, ?_, ?_, ?_, ?_⟩ <;> first | omega | (simp [go_sem, *]; done) | (simp; omega)
  case rest =>
    obtain ⟨g, rfl, rfl, g1, g2, hB, k1, k2, k3, k4⟩ := hcut
    obtain ⟨b0, b1, b2, b3, b4, b5, b6, b7, b8, b9⟩ := hB
    have B0 := Lib.hid b0
    clear b0
    go_upto_region 2 with fail
    go_cut [7, 8] (fun s7 s8 wy => ∃ h : Nat, s7 = .pointer (some ⟨h, 0, none⟩) ∧ s8 = .bool (mOk ax ay aw ah bx by' bw bh) ∧ New wc wy ∧ h < wy.heap.size ∧
      wy.cell? ⟨h, 0, none⟩ = some (.int .i64 (mA ax ay aw ah bx by' bw bh)) ∧ wy.cell? ⟨h, 1, none⟩ = some (.int .i64 (mB ax ay aw ah bx by' bw bh)) ∧ wy.cell? ⟨h, 2, none⟩ = some (.int .i64 (mC ax ay aw ah bx by' bw bh)) ∧ wy.cell? ⟨h, 3, none⟩ = some (.int .i64 (mD ax ay aw ah bx by' bw bh)))
    case first =>
      go_region_held3 (fun w' => New wc w' ∧ w'.cell? ⟨w.heap.size, 0, none⟩ = some (.int .i64 ax) ∧ w'.cell? ⟨w.heap.size, 1, none⟩ = some (.int .i64 ay) ∧ w'.cell? ⟨w.heap.size, 2, none⟩ = some (.int .i64 aw) ∧ w'.cell? ⟨w.heap.size, 3, none⟩ = some (.int .i64 ah) ∧ w'.cell? ⟨w.heap.size + 1, 0, none⟩ = some (.int .i64 bx) ∧ w'.cell? ⟨w.heap.size + 1, 1, none⟩ = some (.int .i64 by') ∧ w'.cell? ⟨w.heap.size + 1, 2, none⟩ = some (.int .i64 bw) ∧ w'.cell? ⟨w.heap.size + 1, 3, none⟩ = some (.int .i64 bh) ∧ w.heap.size + 1 < w'.heap.size)
      (first
        | (with_reducible exact box8_keep hb (by assumption))
        | (with_reducible assumption)
        | (with_reducible exact box8_keep ((New.refl _).alloc _) (by assumption))
        | (exact box8_set (by first | omega | (simp; omega) | (simp; done)) (by first | omega | (simp; omega) | (simp; done)) (box8_set (by first | omega | (simp; omega) | (simp; done)) (by first | omega | (simp; omega) | (simp; done)) (box8_set (by first | omega | (simp; omega) | (simp; done)) (by first | omega | (simp; omega) | (simp; done)) (box8_set (by first | omega | (simp; omega) | (simp; done)) (by first | omega | (simp; omega) | (simp; done)) (by assumption)))))
        | (exact box8_lay (by omega) (by omega) (by assumption))
        | (refine ⟨by (repeat (first | exact New.refl _ | assumption | refine New.alloc ?_ _ | refine New.drew ?_ | refine New.drewN ?_ _ | refine New.setCell ?_ (by first | omega | (simp; omega) | (simp; done)) _ | refine New.trans ?_ (by assumption))), ?_⟩; simp [go_sem]; done)
        | (refine ⟨by (repeat (first | exact New.refl _ | assumption | refine New.alloc ?_ _ | refine New.drew ?_ | refine New.drewN ?_ _ | refine New.setCell ?_ (by first | omega | (simp; omega) | (simp; done)) _ | refine New.trans ?_ (by assumption))), ?_⟩; simp [go_sem, *]; done))
      (first
        | (go_at_call_of 36 (Value.agg #[Value.int IntKind.i64 ax, Value.int IntKind.i64 ay, Value.int IntKind.i64 aw, Value.int IntKind.i64 ah]); go_call toRect_any as e w1 ⟨rfl, hb⟩; have cc1 := hb.cells; have ff1 := hb.marks; have zz1 := hb.le; (try simp at zz1); (try (have : wc.heap.size < w1.heap.size := (by omega))))
        | (go_at_call_of 36 (Value.agg #[Value.int IntKind.i64 bx, Value.int IntKind.i64 by', Value.int IntKind.i64 bw, Value.int IntKind.i64 bh]); go_call toRect_any as e w2 ⟨rfl, hb⟩; have cc2 := hb.cells; have ff2 := hb.marks; have zz2 := hb.le; (try simp at zz2); (try (have : wc.heap.size < w2.heap.size := (by omega))); (try (have : w1.heap.size < w2.heap.size := (by omega))))
        | (go_at_call 27; go_call MeetRects_any as e w3 ⟨rfl, hb⟩; have cc3 := hb.cells; have ff3 := hb.marks; have zz3 := hb.le; (try simp at zz3); (try (have : wc.heap.size < w3.heap.size := (by omega))); (try (have : w1.heap.size < w3.heap.size := (by omega))); (try (have : w2.heap.size < w3.heap.size := (by omega)))))
      all_goals
        go_wp2_with fail
        go_meet
        refine ⟨_, rfl, rfl, And.left (by assumption), ?_, ?_, ?_, ?_, ?_⟩ <;> first | omega | (simp [go_sem, *]; done) | (simp; omega)
    case rest =>
      obtain ⟨h, rfl, rfl, hN, hz, m1, m2, m3, m4⟩ := hcut
      have c1 := (hN.cells g 0 g2).trans k1
      have c2 := (hN.cells g 1 g2).trans k2
      have c3 := (hN.cells g 2 g2).trans k3
      have c4 := (hN.cells g 3 g2).trans k4
      have HN := Lib.hid hN
      clear hN k1 k2 k3 k4 b1 b2 b3 b4 b5 b6 b7 b8
      go_wp2_with (go_at_call 37; refine (eqRect_same _ _ _ _ _).mono ?_; rintro e w4 ⟨rfl, hN4⟩)
      go_ret
      exact ⟨rfl, (B0.out.trans HN.out).trans hN4⟩
end Go.Proofs.Ytadoemojppkmpaa
