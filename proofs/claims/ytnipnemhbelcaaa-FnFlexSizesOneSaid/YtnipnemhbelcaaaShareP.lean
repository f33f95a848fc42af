/- Rows of pairs: made, and filled one by one. No condition. -/
import Derived.Test.YtnipnemhbelcaaaShareR
namespace Go.Proofs.Ytnipnemhbelcaaa
open Go.RowKit Go.Lib Go.Sort

/-- A row of pairs is made. -/
theorem mk_div (n : Nat) (hn : n ≤ 8) (W : World) : (Instr.makeSlice 80 (.int .i64 (n : Int)) (.int .i64 (n : Int))).run Try.prog W = .ok (.slice (some ⟨W.heap.size, 0, none⟩) n n) (W.alloc (.cells (madeCells #[.int .i64 0, .int .i64 0] (n * 2)) 82)) := by
  have hinfo : (Try.prog.info? 82).map (fun i => (i.zero, i.size, i.bytes)) = some (some (.agg #[.int .i64 0, .int .i64 0]), 2, 16) := by kernel_rfl
  obtain ⟨i, hi, hzz⟩ := Option.map_eq_some_iff.1 hinfo
  simp only [Prod.mk.injEq] at hzz
  obtain ⟨hz, hs, hb⟩ := hzz
  have h := run_make (P := Try.prog) W 80 82 i (.agg #[.int .i64 0, .int .i64 0]) Try.underlying80 hi hz .i64 .i64 (n : Int) (n : Int) (by omega) (by omega) (by rw [hb]; omega) (by omega)
  rw [hs] at h
  exact h
theorem RowP.made (w : World) (n : Nat) (t : TypeId) : RowP (w.alloc (.cells (madeCells #[.int .i64 0, .int .i64 0] (n * 2)) t)) w.heap.size (Array.replicate n (0, 0)) := by
  have e : ∀ i, (w.alloc (.cells (madeCells #[.int .i64 0, .int .i64 0] (n * 2)) t)).cell? ⟨w.heap.size, i, none⟩ = (madeCells #[.int .i64 0, .int .i64 0] (n * 2))[i]? := fun i => World.cell?_alloc_new w _ t i
  refine ⟨by simp, fun i hi => ?_, fun i hi => ?_, fun i _ => by simp [go_sem]⟩
  · have hi' : i < n := by simpa using hi
    rw [e, getElem!_pos (Array.replicate n ((0 : Int), (0 : Int))) i hi]
    simp [madeCells, show i * 2 < n * 2 by omega]
  · have hi' : i < n := by simpa using hi
    rw [e, getElem!_pos (Array.replicate n ((0 : Int), (0 : Int))) i hi]
    simp [madeCells, show i * 2 + 1 < n * 2 by omega, show (i * 2 + 1) % 2 = 1 by omega]
theorem RowP.set_ {w : World} {g : Nat} {ps : Array (Int × Int)} (h : RowP w g ps) {k : Nat} (hk : k < ps.size) (x y : Int) : RowP ((w.setCell ⟨g, k * 2, none⟩ (.int .i64 x)).setCell ⟨g, k * 2 + 1, none⟩ (.int .i64 y)) g (ps.setIfInBounds k (x, y)) := by
  refine ⟨by simpa [World.setCell] using h.lt, fun i hi => ?_, fun i hi => ?_, fun t ht => ?_⟩
  · have hi' : i < ps.size := by simpa using hi
    rw [World.cell?_setCell_other _ _ _ _ (by first | omega | (simp; omega) | (simp; done))]
    by_cases e : i = k
    · subst e
      rw [getElem!_set_same _ _ _ hi']
      simp [go_sem, h.c0 i hi']
    · rw [getElem!_set_other _ _ _ _ e, World.cell?_setCell_other _ _ _ _ (by first | omega | (simp; omega) | (simp; done))]
      exact h.c0 i hi'
  · have hi' : i < ps.size := by simpa using hi
    by_cases e : i = k
    · subst e
      rw [getElem!_set_same _ _ _ hi']
      have h1 : (w.setCell ⟨g, i * 2, none⟩ (.int .i64 x)).cell? ⟨g, i * 2 + 1, none⟩ = some (.int .i64 ps[i]!.2) := (World.cell?_setCell_other _ _ _ _ (by simp)).trans (h.c1 i hi')
      simp [go_sem, h1]
    · rw [getElem!_set_other _ _ _ _ e, World.cell?_setCell_other _ _ _ _ (by first | omega | (simp; omega) | (simp; done)), World.cell?_setCell_other _ _ _ _ (by first | omega | (simp; omega) | (simp; done))]
      exact h.c1 i hi'
  · have := h.f t (by simpa using ht)
    simpa [go_sem] using this
/-- The first k pairs, then noughts. -/
def ppTo (k : Nat) (r : List Int) : Array (Int × Int) := ((pairsL r).take k ++ List.replicate (r.length - k) (0, 0)).toArray
theorem ppTo_size (k : Nat) (r : List Int) (h : k ≤ r.length) : (ppTo k r).size = r.length := by unfold ppTo; simp [pairsL_len]; omega
theorem ppTo_zero (r : List Int) : ppTo 0 r = Array.replicate r.length (0, 0) := by unfold ppTo; simp
theorem ppTo_all (r : List Int) : ppTo r.length r = (pairsL r).toArray := by
  unfold ppTo
  rw [List.take_of_length_le (by rw [pairsL_len]; omega)]
  simp
theorem ppTo_step (k : Nat) (r : List Int) (h : k < r.length) : (ppTo k r).setIfInBounds k ((k : Int), r.getD k 0) = ppTo (k + 1) r := by
  unfold ppTo
  have hk : k < (pairsL r).length := by rw [pairsL_len]; exact h
  have e : (pairsL r)[k] = ((k : Int), r.getD k 0) := by simp [pairsL]
  have l : ((pairsL r).take k).length = k := by rw [List.length_take]; omega
  rw [List.take_succ_eq_append_getElem hk, e, show r.length - k = (r.length - (k + 1)) + 1 by omega, List.replicate_succ]
  rw [List.setIfInBounds_toArray, List.set_append_right _ _ (by omega), l]
  simp
end Go.Proofs.Ytnipnemhbelcaaa
