/- Buffers, as they come in: a struct of two slices of numbers and a number. No condition. -/
import Derived.Test.YtopnegbaieflpaaRowS
namespace Go.Proofs.Ytopnegbaieflpaa
open Go.ChangeShapes Go.WideShapes Go.ChangeAt Go.RowKit Go.Joins Go.Deep

section
variable {H : Type} {enc : TypeId × Value → H} {P : Program} {w : World} {base : Nat} {spare : Nat → Bool} {held : Bool}
theorem open_aggS {r : Reach} {b0 : Nat} {t : TypeId} {fs : Array Field} {v : Value} {d : DataW H} {p : List MemPlace} (ht : P.underlying t = some (.struct fs)) (hone : oneCellFields P fs = true) (hC : P.cellsOf t = fs.size)
    (hv : Value.okWide P w r b0 t v) (h : DataW.Trod enc P w base spare held t v d p) :
    ∃ cs : List Value, v = .agg cs.toArray ∧ cs.length = fs.size ∧ ∀ (j : Nat) (f : Field), fs[j]? = some f → ∃ (u : Value) (y : DataW H × List MemPlace) (n : Nat), cs[j]? = some u ∧ DataW.trod enc P w base spare held n f.type [u] = some y := by
  obtain ⟨⟨cs⟩, rfl, hsz⟩ := okWide_struct ht hv
  obtain ⟨fuel, hf⟩ := h
  obtain ⟨ys, n, _, _, hl, hlen, hh⟩ := DataW.trod_struct ht hf
  have hs : cs.length = fs.size := by simpa [hC] using hsz
  refine ⟨cs, rfl, hs, fun j f hj => ?_⟩
  obtain ⟨ho, hk⟩ := hone_of hone j f hj
  have hjl : j < fs.size := (Array.getElem?_eq_some_iff.1 hj).1
  have h1 := hh j f hj
  have e : (cs.drop j).take 1 = [cs[j]'(by omega)] := by
    rw [List.drop_eq_getElem_cons (by omega)]
    rfl
  replace h1 : DataW.trod enc P w base spare held n f.type [cs[j]'(by omega)] = ys[j]? := by simpa [Value.cells, ho, hk, e] using h1
  have hys : ys[j]? = some (ys[j]'(by omega)) := List.getElem?_eq_getElem (by omega)
  exact ⟨_, _, _, List.getElem?_eq_getElem (by omega), h1.trans hys⟩
end
set_option maxRecDepth 100000 in
theorem open_numsT {H : Type} {enc : TypeId × Value → H} {W : World} {n : Nat} {u : Value} {y : DataW H × List MemPlace} (hf : DataW.trod enc Try.prog W 0 (fun _ => true) true n 22 [u] = some y) :
    ∃ (A : Option Addr) (n c : Nat) (xs : List Int), u = .slice A n c ∧ n ≤ maxLen ∧ Ints W A n xs := by
  rcases open_ints Try.underlying22 Try.underlying3 (by kernel_rfl) hf with ⟨hcs, _⟩ | ⟨x, l, k, zs, hcs, _, hl, hm, hz, _, hcell, hwz⟩
  · simp at hcs
    subst hcs
    exact ⟨none, 0, 0, [], rfl, Nat.zero_le _, ⟨rfl, fun hh => absurd hh (by omega)⟩⟩
  · simp at hcs
    subst hcs
    have hlen : zs.length = k := by simpa using hz
    refine ⟨_, l, k, zs.take l, rfl, by omega, ⟨by rw [List.length_take]; omega, fun hn => ?_⟩⟩
    obtain ⟨b1, off, rfl, hat⟩ := ints_at hcell (by omega)
    refine ⟨b1, off, rfl, World.block_lt_of_cell? W _ (hat 0 (by omega)), fun i hi => ?_⟩
    have hc := hat i (by omega)
    have e : (zs.take l).getD i 0 = zs.getD i 0 := by
      simp [hi]
    rw [e]
    exact hc
set_option maxRecDepth 100000 in
theorem open_Buffers1 {H : Type} {enc : TypeId × Value → H} {W : World} {r : Reach} {b0 : Nat} {v : Value} {d : DataW H} {p : List MemPlace}
    (hv : Value.okWide Try.prog W r b0 24 v) (h : DataW.Trod enc Try.prog W 0 (fun _ => true) true 24 v d p) :
    ∃ (A : Option Addr) (n c : Nat) (B : Option Addr) (m d : Nat) (z : Int) (xs ys : List Int), v = .agg #[.slice A n c, .slice B m d, .int .i64 z] ∧ n ≤ maxLen ∧ m ≤ maxLen ∧ Ints W A n xs ∧ Ints W B m ys := by
  obtain ⟨cs, rfl, hl, hh⟩ := open_aggS Try.underlying24 (by kernel_rfl) (by kernel_rfl) hv h
  obtain ⟨u0, y0, n0, e0, t0⟩ := hh 0 _ rfl
  obtain ⟨u1, y1, n1, e1, t1⟩ := hh 1 _ rfl
  obtain ⟨u2, y2, n2, e2, t2⟩ := hh 2 _ rfl
  obtain ⟨A, n, c, xs, rfl, hn, hx⟩ := open_numsT t0
  obtain ⟨B, m, d, ys, rfl, hm, hy⟩ := open_numsT t1
  obtain ⟨z, hz, _⟩ := DataW.trod_int Try.underlying3 t2
  obtain rfl := (List.cons.inj hz).1
  match cs, hl, e0, e1, e2 with
  | [c0, c1, c2], _, e0, e1, e2 =>
    simp only [List.getElem?_cons_zero, List.getElem?_cons_succ, Option.some.injEq] at e0 e1 e2
    subst e0 e1 e2
    exact ⟨A, n, c, B, m, d, z, xs, ys, rfl, hn, hm, hx, hy⟩
end Go.Proofs.Ytopnegbaieflpaa
