/- The program's frames, walked: FinishFrames, WorkLeft, FramesNeeded, IdleTime answer as the plain functions do. Condition: the lists can be read. -/
import Derived.Test.YtkaagpfgpacfcaaFrameI
import Derived.Test.YtkaagpfgpacfcaaFrameS
namespace Go.Proofs.Ytkaagpfgpacfcaa
open Go.RowKit

theorem size_alloc1 (w : World) (o : Obj) : (w.alloc o).heap.size = w.heap.size + 1 := by simp
set_option maxHeartbeats 1000000 in
theorem startWork_no (A B : Option Addr) (n c m d : Nat) (cs bs : List Int) (hn : n ≤ 1048576) (hm : m ≤ 1048576) (hj : jobsB cs bs = false) (w : World) (hx : Ints w A n cs) (hy : Ints w B m bs) :
    Calls Try.prog 49 #[.slice A n c, .slice B m d] w fun e w' => e = .returned (.pointer none) ∧ w = w' := by
  have HX := Lib.hid hx; have HY := Lib.hid hy
  clear hx hy
  unfold jobsB at hj
  cases h1 : jobB cs
  · have H1 := Lib.hid h1
    clear h1 hj
    go_enter Try.func49, Try.ntmps49
    go_wp2_with (go_at_call 83; refine (ivalidCosts_any A n c cs hn _ HX.out).mono ?_; rw [H1.out]; rintro e w' ⟨rfl, rfl⟩)
    go_ret
    exact ⟨rfl, rfl⟩
  · have H1 := Lib.hid h1
    rw [h1, Bool.true_and] at hj
    have H2 := Lib.hid hj
    clear h1 hj
    go_enter Try.func49, Try.ntmps49
    go_wp2_with (first
      | (go_at_call 83; refine (ivalidCosts_any A n c cs hn _ HX.out).mono ?_; rw [H1.out]; rintro e w' ⟨rfl, rfl⟩)
      | (go_at_call 84; refine (validList_any B m d bs _ _ hm _ HY.out).mono ?_; rw [listB_job, H2.out]; rintro e w' ⟨rfl, rfl⟩))
    go_ret
    exact ⟨rfl, rfl⟩
set_option maxHeartbeats 1000000 in
theorem startWork_yes (A B : Option Addr) (n c m d : Nat) (cs bs : List Int) (hj : jobsB cs bs = true) (w : World) (hx : Ints w A n cs) (hy : Ints w B m bs) :
    Calls Try.prog 49 #[.slice A n c, .slice B m d] w fun e w' => ∃ p A' c', e = .returned (.pointer (some ⟨p, 0, none⟩)) ∧ Wk w.heap.size w'.heap.size w' p A' n c' cs 0 ∧ New w w' := by
  obtain ⟨hc, hb⟩ := jobsB_iff.1 hj
  have n12 : n ≤ 12 := by have := hx.len; have := hc.len; omega
  have m12 : m ≤ 12 := by have := hy.len; have := hb.len; omega
  have H1 := Lib.hid (jobB_iff.2 hc); have H2 := Lib.hid (jobB_iff.2 hb)
  have HX := Lib.hid hx; have HY := Lib.hid hy; have LX := Lib.hid hx.len
  clear hx hy hj hc hb
  go_enter Try.func49, Try.ntmps49
  go_wp2_with (first
    | (go_at_call 83; refine (ivalidCosts_any A n c cs (by omega) _ HX.out).mono ?_; rw [H1.out]; rintro e w' ⟨rfl, rfl⟩)
    | (go_at_call 84; refine (validList_any B m d bs _ _ (by omega) _ HY.out).mono ?_; rw [listB_job, H2.out]; rintro e w' ⟨rfl, rfl⟩)
    | (go_at_call 85; refine (Clone_any A n c cs (by omega) _ HX.out).mono ?_; rintro e w1 ⟨A1, n1, c1, rfl, l1, R1, N1⟩; (obtain rfl : n = n1 := by have := LX.out; omega); (have R1 := Lib.hid R1); (have N1 := Lib.hid N1); clear l1))
  have z1 := N1.out.le
  go_ret
  refine ⟨w1.heap.size, A1, c1, rfl, ⟨z1, by simp, by simp [go_sem], by simp [go_sem], by simp [go_sem], LX.out, fun h0 => ?_⟩, N1.out.alloc _⟩
  obtain ⟨g, e, g1, g2, R⟩ := R1.out.2 (by rw [LX.out]; exact h0)
  exact ⟨g, e, by omega, g1, by simp; omega, R.new ((New.refl _).alloc _)⟩
theorem mn_step {c s b : Int} (hb : 0 ≤ b) : mn (mn c s + b) s = mn (c + b) s := by unfold mn; omega
theorem Own.chg {lo hi lo2 : Nat} {w w' : World} {v : Value} {zs : List Int} (h : Own lo2 w v zs) (k : Chg lo hi w w') (hl : hi ≤ lo2) : Own lo2 w' v zs := by
  refine ⟨h.1, ?_⟩
  rcases h.2 with hn | ⟨g, cap, cur, hv, hg, hh, hc, hm, hs, ht⟩
  · exact .inl hn
  · have hlt : g < w.heap.size := by
      rcases Nat.lt_or_ge g w.heap.size with h1 | h1
      · exact h1
      · rw [Array.getElem?_eq_none h1] at hh; cases hh
    exact .inr ⟨g, cap, cur, hv, hg, (k.block g hlt (by omega)).trans hh, hc, hm, hs, ht⟩
theorem Wk.own {lo hi p n c d lo2 : Nat} {w w' : World} {A : Option Addr} {ls zs : List Int} {v : Value} (h : Wk lo hi w p A n c ls d) (k : w.grownBy w' v.ownBlock) (ho : Own lo2 w v zs) (hl : hi ≤ lo2) : Wk lo hi w' p A n c ls d := by
  have hp : p < w.heap.size := World.block_lt_of_cell? w ⟨p, 1, none⟩ h.c1
  have p0 := h.p0; have p1 := h.p1
  have kb : ∀ b, b < w.heap.size → b < hi → w'.heap[b]? = w.heap[b]? := fun b hb hb' => k.block b hb (fun e => by have := ho.below e.symm; omega)
  refine ⟨h.p0, h.p1, (World.cell?_of_block (kb p hp p1)).trans h.c0, (World.cell?_of_block (kb p hp p1)).trans h.c1, (World.frozen?_of_block (w := w) (kb p hp p1)).trans h.f1, h.len, fun h0 => ?_⟩
  obtain ⟨g, e, g0, g1, g2, R⟩ := h.row h0
  exact ⟨g, e, g0, g1, g2, ⟨Nat.lt_of_lt_of_le R.lt k.size, fun i hi' => (World.cell?_of_block (kb g R.lt g2)).trans (R.c i hi'), fun i hi' => (World.frozen?_of_block (w := w) (kb g R.lt g2)).trans (R.f i hi')⟩⟩
end Go.Proofs.Ytkaagpfgpacfcaa
