/- Lists of Rect that grow by append: what owning such a list means, and what each append leaves. Conditions: the list is short. -/
import Derived.Test.YtnipnemhbelcaaaRectS
import Derived.Test.YtnipnemhbelcaaaApp
namespace Go.Proofs.Ytnipnemhbelcaaa
open Go.RowKit

/-- The slice value v owns n structs with the numbers zs, in a block from lo on. -/
def OwnRect (lo : Nat) (w : World) (v : Value) (n : Nat) (zs : List Int) : Prop := w.ownsRow lo 24 4 v n (zs.map (Value.int .i64)) ∧ zs.length = n * 4
section
variable {lo n : Nat} {w w' w0 : World} {v : Value} {zs : List Int}
theorem OwnRect.form (h : OwnRect lo w v n zs) : (v = .slice none 0 0 ∧ n = 0 ∧ zs = []) ∨ ∃ g c, v = .slice (some ⟨g, 0, none⟩) n c ∧ lo ≤ g ∧ Row w g zs ∧ n ≤ c ∧ v.ownBlock = some g := by
  obtain ⟨h, hl⟩ := h
  rcases h.2 with ⟨hv, hn⟩ | ⟨g, cap, cur, hv, hg, hh, hc, hm, hs, ht⟩
  · exact .inl ⟨hv, hn, List.eq_nil_of_length_eq_zero (by omega)⟩
  · refine .inr ⟨g, cap, hv, hg, ?_, hc, by rw [hv]; rfl⟩
    have hlt : g < w.heap.size := by
      rcases Nat.lt_or_ge g w.heap.size with h1 | h1
      · exact h1
      · rw [Array.getElem?_eq_none h1] at hh; cases hh
    refine ⟨hlt, fun i hi => ?_, fun i _ => by simp [World.frozen?, hh]⟩
    rw [cell_of_row w g i cur 24 (0, 0) hh]
    have e : cur[i]? = (cur.toList.take (n * 4))[i]? := by
      rw [List.getElem?_take_of_lt (by omega)]
      simp
    rw [e, ht]
    simp [hi]
theorem OwnRect.res (h : OwnRect lo w v n zs) : ∃ A c, v = .slice A n c ∧ n ≤ c ∧ Res lo w.heap.size w A zs := by
  rcases h.form with ⟨rfl, rfl, rfl⟩ | ⟨g, c, rfl, hg, hR, hc, _⟩
  · exact ⟨none, 0, rfl, Nat.le_refl _, Res.nil _ _ _⟩
  · exact ⟨_, c, rfl, hc, Res.of_row hR hg⟩
theorem OwnRect.below (h : OwnRect lo w v n zs) {g : Nat} (hg : v.ownBlock = some g) : lo ≤ g := by
  rcases h.form with ⟨rfl, _, _⟩ | ⟨g', c, rfl, hg', _, _, e⟩
  · simp [Value.ownBlock] at hg
  · rw [e] at hg; have := Option.some.inj hg; omega
theorem OwnRect.kept (h : OwnRect lo w v n zs) {r : Option Nat} (k : w.grownBy w' r) (hr : ∀ g, r = some g → g < lo) : OwnRect lo w' v n zs := by
  refine ⟨⟨h.1.1, ?_⟩, h.2⟩
  rcases h.1.2 with hn | ⟨g, cap, cur, hv, hg, hh, hc, hm, hs, ht⟩
  · exact .inl hn
  · have hlt : g < w.heap.size := by
      rcases Nat.lt_or_ge g w.heap.size with h1 | h1
      · exact h1
      · rw [Array.getElem?_eq_none h1] at hh; cases hh
    exact .inr ⟨g, cap, cur, hv, hg, (k.block g hlt (fun e => by have := hr g e.symm; omega)).trans hh, hc, hm, hs, ht⟩
theorem OwnRect.new (h : OwnRect lo w v n zs) (k : New w w') : OwnRect lo w' v n zs := h.kept (k.grown none) (fun _ e => by cases e)
theorem OwnRect.alloc (h : OwnRect lo w v n zs) (o : Obj) : OwnRect lo (w.alloc o) v n zs := h.new ((New.refl _).alloc o)
theorem OwnRect.empty (w : World) (hl : lo ≤ w.heap.size) : OwnRect lo (w.alloc (.cells #[] 24)) (.slice (some ⟨w.heap.size, 0, none⟩) 0 0) 0 [] :=
  ⟨⟨rfl, .inr ⟨w.heap.size, 0, #[], rfl, hl, heap_alloc_new w _, Nat.le_refl _, Nat.zero_le _, rfl, rfl⟩⟩, rfl⟩
theorem new_ownRect (h : New w0 w) (k : w.grownBy w' v.ownBlock) (ho : OwnRect lo w v n zs) (hl : w0.heap.size ≤ lo) : New w0 w' :=
  ⟨k.os.trans h.os, k.tape.trans h.tape, k.output.trans h.output, Nat.le_trans h.size k.size, fun i hi => (k.block i (Nat.lt_of_lt_of_le hi h.size) (fun e => by have := ho.below e.symm; omega)).trans (h.block i hi)⟩
theorem only_ownRect {a : Nat} (h : w0.grownBy w (some a)) (k : w.grownBy w' v.ownBlock) (ho : OwnRect lo w v n zs) (hl : w0.heap.size ≤ lo) : w0.grownBy w' (some a) :=
  ⟨k.os.trans h.os, k.tape.trans h.tape, k.output.trans h.output, Nat.le_trans h.size k.size, fun i hi hne => (k.block i (Nat.lt_of_lt_of_le hi h.size) (fun e => by have := ho.below e.symm; omega)).trans (h.block i hi hne)⟩
theorem Rdr.ownRect {a : Nat} {A : Option Addr} {m p : Nat} (h : Rdr w a A m p) (k : w.grownBy w' v.ownBlock) (ho : OwnRect lo w v n zs) (hl : a < lo) : Rdr w' a A m p :=
  h.grown k (fun _ e => by have := ho.below e; omega)
end
theorem info_Rect : (Try.prog.info? 24).map (fun i => (i.zero, i.size, i.bytes)) = some (some (.agg #[Value.int .i64 0, Value.int .i64 0, Value.int .i64 0, Value.int .i64 0]), 4, 32) := by kernel_rfl
theorem Row.oneRect (w : World) (y0 y1 y2 y3 : Int) (t : TypeId) : Row (w.alloc (.cells #[.int .i64 y0, .int .i64 y1, .int .i64 y2, .int .i64 y3] t)) w.heap.size [y0, y1, y2, y3] :=
  ⟨by simp, fun i hi => by
    have hi' : i < 4 := by simpa using hi
    match i, hi' with
    | 0, _ => simp [go_sem]
    | 1, _ => simp [go_sem]
    | 2, _ => simp [go_sem]
    | 3, _ => simp [go_sem]
    | i + 4, h => omega, fun i hi => by simp [go_sem]⟩
end Go.Proofs.Ytnipnemhbelcaaa
