/- The boxes of a loop over lines that places rectangles, and what a round does to them. Condition: none. -/
import Derived.Test.YtpkajdnndognnaaPrtC
import Derived.Test.YtpkajdnndognnaaRectA
namespace Go.Proofs.Ytpkajdnndognnaa
open Go.RowKit Go.Shelf

/-- The boxes: the gap's, the list's, the height's; the list of the call's own. -/
structure WS (w W : World) (gap : Int) (v : Value) (k : Nat) (xs : List Int) (y : Int) : Prop where
  g : Boxed W w.heap.size 3 (.int .i64 gap)
  r : Boxed W (w.heap.size + 1) 24 v
  t : Boxed W (w.heap.size + 2) 3 (.int .i64 y)
  row : OwnRect (w.heap.size + 6) W v k xs
  b : Below w.heap.size w W
  sz : w.heap.size + 6 ≤ W.heap.size
section
variable {w W W' : World} {gap : Int} {v v' : Value} {k k' : Nat} {xs ys : List Int} {y y' : Int}
theorem WS.low (h : WS w W gap v k xs y) {g : Nat} (hg : v.ownBlock = some g) : w.heap.size + 6 ≤ g := h.row.below hg
theorem WS.grown {r : Option Nat} (h : WS w W gap v k xs y) (hg : W.grownBy W' r) (hr : ∀ i, r = some i → w.heap.size + 6 ≤ i ∧ v.ownBlock ≠ some i) : WS w W' gap v k xs y :=
  ⟨h.g.kept hg (fun e => by have := (hr _ e.symm).1; omega), h.r.kept hg (fun e => by have := (hr _ e.symm).1; omega), h.t.kept hg (fun e => by have := (hr _ e.symm).1; omega),
    ⟨h.row.1.kept hg (by
      cases hv : v.ownBlock with
      | none => exact .inl rfl
      | some i => exact .inr (fun e => (hr i e.symm).2 hv)), h.row.2⟩,
    h.b.grown hg h.b.size (fun i e => by have := (hr i e).1; omega), Nat.le_trans h.sz hg.size⟩
theorem WS.new (h : WS w W gap v k xs y) (hN : New W W') : WS w W' gap v k xs y := h.grown (hN.grown none) (fun _ e => by cases e)
theorem WS.alloc (h : WS w W gap v k xs y) (o : Obj) : WS w (W.alloc o) gap v k xs y := h.new ((New.refl _).alloc o)
theorem WS.keeps (h : WS w W gap v k xs y) (hg : W.grownBy W' v.ownBlock) : KeepsOthers W W' :=
  KeepsOthers.of_grownBy hg (fun j o ej hj => by
    rcases h.row.1.2 with ⟨rfl, _⟩ | ⟨g, cap, cur, rfl, _, hgb, _⟩
    · simp [Value.ownBlock] at ej
    · obtain rfl : g = j := by simpa [Value.ownBlock] using ej
      rw [hgb] at hj; cases hj; rfl)
/-- An append to the list, which is then stored in its box. -/
theorem WS.app (h : WS w W gap v k xs y) (ho : OwnRect (w.heap.size + 6) W' v' k' ys) (hg : W.grownBy W' v.ownBlock) :
    WS w (W'.setCell ⟨w.heap.size + 1, 0, none⟩ v') gap v' k' ys y ∧ KeepsOthers W (W'.setCell ⟨w.heap.size + 1, 0, none⟩ v') ∧ Keep3 (w.heap.size + 1) (w.heap.size + 3) W (W'.setCell ⟨w.heap.size + 1, 0, none⟩ v') ∧ Boxed W' (w.heap.size + 1) 24 v := by
  have ne : ∀ i, i < w.heap.size + 6 → some i ≠ v.ownBlock := fun i hi e => by have := h.low e.symm; omega
  have r1 := h.r.kept hg (ne _ (by omega))
  have ne' : ∀ i, i < w.heap.size + 6 → v'.ownBlock ≠ some i := fun i hi e => by have := ho.below e; omega
  have gs := grownBy_setCell' W' (w.heap.size + 1) v'
  refine ⟨⟨(h.g.kept hg (ne _ (by omega))).kept gs (by simp), r1.set v', (h.t.kept hg (ne _ (by omega))).kept gs (by simp), ⟨ho.1.kept gs (.inr (ne' _ (by omega))), ho.2⟩, ?_, Nat.le_trans h.sz (Nat.le_trans hg.size gs.size)⟩, (h.keeps hg).trans (KeepsOthers.setCell _ _ _), ?_, r1⟩
  · exact (h.b.grown hg h.b.size (fun i e => by have := h.low e; omega)).setCell (p := ⟨w.heap.size + 1, 0, none⟩) (by show _ ≤ w.heap.size + 1; omega) v'
  · refine ⟨Nat.le_trans hg.size gs.size, fun i hi hc => ?_⟩
    have a1 := hg.block i hi (ne i (by omega))
    exact (gs.block i (Nat.lt_of_lt_of_le hi hg.size) (fun e => by have := Option.some.inj e; omega)).trans a1
/-- The height is stored in its box. -/
theorem WS.put (h : WS w W gap v k xs y) (z : Int) : WS w (W.setCell ⟨w.heap.size + 2, 0, none⟩ (.int .i64 z)) gap v k xs z ∧ KeepsOthers W (W.setCell ⟨w.heap.size + 2, 0, none⟩ (.int .i64 z)) ∧ Keep3 (w.heap.size + 1) (w.heap.size + 3) W (W.setCell ⟨w.heap.size + 2, 0, none⟩ (.int .i64 z)) := by
  have gs := grownBy_setCell' W (w.heap.size + 2) (.int .i64 z)
  refine ⟨⟨h.g.kept gs (by simp), h.r.kept gs (by simp), h.t.set _, ⟨h.row.1.kept gs (.inr (fun e => by have := h.low e; omega)), h.row.2⟩, h.b.setCell (p := ⟨w.heap.size + 2, 0, none⟩) (by show _ ≤ w.heap.size + 2; omega) _, Nat.le_trans h.sz gs.size⟩, KeepsOthers.setCell _ _ _, ⟨gs.size, fun i hi hc => gs.block i hi (fun e => by have := Option.some.inj e; omega)⟩⟩
end
/-- What the lines that came make: the height, the rectangles, how many. -/
def wpP (zs : List Int) (n : Nat) (wd gap : Int) (pre : List { k : Nat // k < nl zs n wd gap }) : Int × List Int × Nat :=
  pre.foldl (fun s x => (s.1 + (lnH zs n wd gap x.1 + gap), s.2.1 ++ rcl zs gap (st zs n wd gap x.1) s.1 (ln zs n wd gap (st zs n wd gap x.1)), s.2.2 + ln zs n wd gap (st zs n wd gap x.1))) (0, [], 0)
section
variable {zs : List Int} {n : Nat} {wd gap : Int}
theorem wpP_snoc (pre : List { k : Nat // k < nl zs n wd gap }) (x : { k : Nat // k < nl zs n wd gap }) :
    wpP zs n wd gap (pre ++ [x]) = ((wpP zs n wd gap pre).1 + (lnH zs n wd gap x.1 + gap), (wpP zs n wd gap pre).2.1 ++ rcl zs gap (st zs n wd gap x.1) (wpP zs n wd gap pre).1 (ln zs n wd gap (st zs n wd gap x.1)), (wpP zs n wd gap pre).2.2 + ln zs n wd gap (st zs n wd gap x.1)) := by
  unfold wpP; rw [List.foldl_append]; rfl
theorem wpP_up : ∀ k h, wpP zs n wd gap (upN (nl zs n wd gap) k h) = (tp zs n wd gap k, rcs zs n wd gap k, st zs n wd gap k)
  | 0, _ => rfl
  | k + 1, h => by rw [upN, wpP_snoc, wpP_up k (by omega)]; rfl
theorem wpP_bd (hv : prsB n zs = true) (hg : 0 ≤ gap ∧ gap ≤ 50) : ∀ (m : Nat) (pre : List { k : Nat // k < nl zs n wd gap }), pre.length = m → (0 ≤ (wpP zs n wd gap pre).1 ∧ (wpP zs n wd gap pre).1 ≤ 10050 * (m : Int)) ∧ (wpP zs n wd gap pre).2.2 ≤ 12 * m
  | 0, pre, h => by obtain rfl : pre = [] := List.eq_nil_of_length_eq_zero h; exact ⟨⟨Int.le_refl _, by show (0 : Int) ≤ _; omega⟩, Nat.le_refl _⟩
  | m + 1, pre, h => by
    have hne : pre ≠ [] := fun e => by rw [e] at h; cases h
    rw [← List.dropLast_concat_getLast hne, wpP_snoc]
    have ih := wpP_bd hv hg m pre.dropLast (by rw [List.length_dropLast, h]; rfl)
    have hx := (pre.getLast hne).2
    have b1 := lnH_bd hv hx
    have b2 := line_in hx
    have b3 := n_le hv
    generalize (pre.getLast hne).1 = x at *
    generalize wpP zs n wd gap pre.dropLast = s at *
    dsimp only
    omega
end
end Go.Proofs.Ytpkajdnndognnaa
