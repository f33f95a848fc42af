/- A Rect, as it comes in: a struct of numbers. No condition. -/
import Derived.Test.YtokcbfnmnccacaaZY
namespace Go.Proofs.Ytokcbfnmnccacaa
open Go.ChangeShapes Go.WideShapes Go.ChangeAt Go.RowKit Go.Joins Go.Deep

section
variable {H : Type} {enc : TypeId × Value → H} {P : Program} {w : World} {base : Nat} {spare : Nat → Bool} {held : Bool}
theorem open_aggN {r : Reach} {b0 : Nat} {t : TypeId} {fs : Array Field} {v : Value} {d : DataW H} {p : List MemPlace} (ht : P.underlying t = some (.struct fs)) (hone : oneCellFields P fs = true) (hC : P.cellsOf t = fs.size)
    (hv : Value.okWide P w r b0 t v) (h : DataW.Trod enc P w base spare held t v d p) :
    ∃ cs : List Value, v = .agg cs.toArray ∧ cs.length = fs.size ∧ ∀ (j : Nat) (f : Field), fs[j]? = some f → ∃ (u : Value) (y : DataW H × List MemPlace) (n : Nat), cs[j]? = some u ∧ DataW.trod enc P w base spare held n f.type [u] = some y := by
  obtain ⟨⟨cs⟩, rfl, hsz⟩ := okWide_struct ht hv
  obtain ⟨fuel, hf⟩ := h
  obtain ⟨ys, n, _, _, hl, hlen, hh⟩ := DataW.trod_struct ht hf
  have hs : cs.length = fs.size := by simpa [hC] using hsz
  refine ⟨cs, rfl, hs, fun j f hj => ?_⟩
  obtain ⟨ho, hk⟩ := hone_of hone j f hj
  have hjl : j < fs.size := (Array.getElem?_eq_some_iff.1 hj).1
  have h1 := hh j f hj
  have e : (cs.drop j).take 1 = [cs[j]'(by omega)] := by
    rw [List.drop_eq_getElem_cons (by omega)]
    rfl
  replace h1 : DataW.trod enc P w base spare held n f.type [cs[j]'(by omega)] = ys[j]? := by simpa [Value.cells, ho, hk, e] using h1
  have hys : ys[j]? = some (ys[j]'(by omega)) := List.getElem?_eq_getElem (by omega)
  exact ⟨_, _, _, List.getElem?_eq_getElem (by omega), h1.trans hys⟩
end
set_option maxRecDepth 100000 in
theorem open_Rect1 {H : Type} {enc : TypeId × Value → H} {W : World} {r : Reach} {b0 : Nat} {v : Value} {d : DataW H} {p : List MemPlace}
    (hv : Value.okWide Try.prog W r b0 34 v) (h : DataW.Trod enc Try.prog W 0 (fun _ => true) true 34 v d p) :
    ∃ y0 y1 y2 y3 : Int, v = .agg #[.int .i64 y0, .int .i64 y1, .int .i64 y2, .int .i64 y3] := by
  obtain ⟨cs, rfl, hl, hh⟩ := open_aggN Try.underlying34 (by kernel_rfl) (by kernel_rfl) hv h
  have each : ∀ j, j < 4 → ∃ z, cs[j]? = some (.int .i64 z) := fun j hj => by
    match j, hj with
    | 0, _ => obtain ⟨u, y, n, hc, ht⟩ := hh 0 _ rfl; obtain ⟨z, hz, _⟩ := DataW.trod_int Try.underlying3 ht; exact ⟨z, by rw [List.cons.inj hz |>.1] at hc; exact hc⟩
    | 1, _ => obtain ⟨u, y, n, hc, ht⟩ := hh 1 _ rfl; obtain ⟨z, hz, _⟩ := DataW.trod_int Try.underlying3 ht; exact ⟨z, by rw [List.cons.inj hz |>.1] at hc; exact hc⟩
    | 2, _ => obtain ⟨u, y, n, hc, ht⟩ := hh 2 _ rfl; obtain ⟨z, hz, _⟩ := DataW.trod_int Try.underlying3 ht; exact ⟨z, by rw [List.cons.inj hz |>.1] at hc; exact hc⟩
    | 3, _ => obtain ⟨u, y, n, hc, ht⟩ := hh 3 _ rfl; obtain ⟨z, hz, _⟩ := DataW.trod_int Try.underlying3 ht; exact ⟨z, by rw [List.cons.inj hz |>.1] at hc; exact hc⟩
    | j + 4, hj => omega
  match cs, hl, each with
  | [c0, c1, c2, c3], _, each =>
    obtain ⟨y0, h0⟩ := each 0 (by omega)
    obtain ⟨y1, h1⟩ := each 1 (by omega)
    obtain ⟨y2, h2⟩ := each 2 (by omega)
    obtain ⟨y3, h3⟩ := each 3 (by omega)
    simp only [List.getElem?_cons_zero, List.getElem?_cons_succ, Option.some.injEq] at h0 h1 h2 h3
    subst h0 h1 h2 h3
    exact ⟨y0, y1, y2, y3, rfl⟩
end Go.Proofs.Ytokcbfnmnccacaa
