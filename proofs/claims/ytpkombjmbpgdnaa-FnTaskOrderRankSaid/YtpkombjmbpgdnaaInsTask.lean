/- slices.Insert of one Task into a list of the call's own, walked. Conditions: the list is short; the Task lies in another block. -/
import Derived.Test.YtpkombjmbpgdnaaTaskB
import Derived.Shelf.Spec.SlicesInsert
import Derived.Lib.AppendZerosOnto
import Derived.Deep.RegionLaw
namespace Go.Proofs.Ytpkombjmbpgdnaa
open Go.RowKit

/-- One struct more at a place. -/
def insTask (zs : List Int) (k : Nat) (es : List Int) : List Int := zs.take (k * 3) ++ es ++ zs.drop (k * 3)
theorem insTask_len {zs es : List Int} {k n : Nat} (hz : zs.length = n * 3) (he : es.length = 3) (hk : k ≤ n) : (insTask zs k es).length = (n + 1) * 3 := by
  unfold insTask; rw [List.length_append, List.length_append, List.length_take, List.length_drop]; omega
theorem insTask_get {zs es : List Int} {k n j : Nat} (hz : zs.length = n * 3) (he : es.length = 3) (hk : k ≤ n) :
    (insTask zs k es).getD j 0 = if j < k * 3 then zs.getD j 0 else if j < (k + 1) * 3 then es.getD (j - k * 3) 0 else zs.getD (j - 3) 0 := by
  have hl : (zs.take (k * 3)).length = k * 3 := by rw [List.length_take]; omega
  have hl2 : (zs.take (k * 3) ++ es).length = (k + 1) * 3 := by rw [List.length_append, hl, he]; omega
  unfold insTask
  split
  · next h => rw [List.getD_eq_getElem?_getD, List.getElem?_append_left (by omega), List.getElem?_append_left (by omega), List.getElem?_take_of_lt h, List.getD_eq_getElem?_getD]
  · split
    · next h1 h2 => rw [List.getD_eq_getElem?_getD, List.getElem?_append_left (by omega), List.getElem?_append_right (by omega), hl, List.getD_eq_getElem?_getD]
    · next h1 h2 => rw [List.getD_eq_getElem?_getD, List.getElem?_append_right (by omega), hl2, List.getElem?_drop, List.getD_eq_getElem?_getD]; congr 2; omega
/-- What stores of a list into a block leave. -/
structure Cpd (W W' : World) (g o : Nat) (cs : List Int) : Prop where
  cin : ∀ j, j < cs.length → W'.cell? ⟨g, o + j, none⟩ = some (.int .i64 (cs.getD j 0))
  cout : ∀ x : Addr, (x.block = g → x.spot = none → x.off < o ∨ o + cs.length ≤ x.off) → W'.cell? x = W.cell? x
  fz : ∀ x, W'.frozen? x = W.frozen? x
  gr : W.grownBy W' (some g)
theorem Cpd.of {W : World} {g o : Nat} {cs : List Int} (h : ∀ j, j < cs.length → (W.cell? ⟨g, o + j, none⟩).isSome = true) : Cpd W (W.setCells g o (cs.map (Value.int .i64))) g o cs := by
  have grown : ∀ (vs : List Value) (p : Nat) (w0 w1 : World), w0.grownBy w1 (some g) → w0.grownBy (w1.setCells g p vs) (some g) := fun vs => by
    induction vs with
    | nil => intro p w0 w1 h; exact h
    | cons v vs ih => intro p w0 w1 h; exact ih (p + 1) w0 _ (own_set h v (k := p))
  refine ⟨fun j hj => ?_, fun x hx => ?_, fun x => World.frozen?_setCells g _ o W x, grown _ o W W (World.grownBy.refl W (some g))⟩
  · rw [World.cell?_setCells_in g (cs.map (Value.int .i64)) o W (fun j hj => h j (by simpa using hj)) j (by simpa using hj)]
    simp [hj]
  · exact World.cell?_setCells_out g (cs.map (Value.int .i64)) o W x (fun h1 h2 => by rw [List.length_map]; exact hx h1 h2)
theorem run_cpTask (w : World) (ty : TypeId) (g o dLen dCap : Nat) (b p sLen sCap : Nat) (cs : List Int) (hn : cs.length = Nat.min sLen dLen * 3)
    (hsrc : ∀ j, j < cs.length → w.cell? ⟨b, p + j, none⟩ = some (.int .i64 (cs.getD j 0))) (hc : ∀ j, j < cs.length → (w.cell? ⟨g, o + j, none⟩).isSome = true) (hf : ∀ j, j < cs.length → w.frozen? ⟨g, o + j, none⟩ = false) :
    (Builtin.copy_ #[23, 23] ty #[.slice (some ⟨g, o, none⟩) dLen dCap, .slice (some ⟨b, p, none⟩) sLen sCap]).run Try.prog w = .ok (goInt (Nat.min sLen dLen)) (w.setCells g o (cs.map (Value.int .i64))) := by
  have hs : (Try.prog.info? 30).map (·.size) = some 3 := by kernel_rfl
  have hl := run_loadCells_list (P := Try.prog) w ⟨b, p, none⟩ (cs.map (Value.int .i64)) (fun j u hu => by
    have hj : j < cs.length := by
      rcases Nat.lt_or_ge j cs.length with h1 | h1
      · exact h1
      · rw [List.getElem?_eq_none (by simpa using h1)] at hu; cases hu
    have e : u = .int .i64 (cs.getD j 0) := by
      simp [hj] at hu ⊢
      exact hu.symm
    rw [e, Go.WideShapes.add_plain]
    exact hsrc j hj)
  have hst := run_storeCells_cells (P := Try.prog) g o (cs.map (Value.int .i64)) 0 w (fun j hj => by simpa using hc j (by simpa using hj)) (fun j hj => by simpa using hf j (by simpa using hj)) (fun u hu => by
    obtain ⟨z, _, rfl⟩ := List.mem_map.1 hu
    rfl)
  rw [List.length_map, hn] at hl
  cases hq : Try.prog.info? 30 with
  | none => simp [hq] at hs
  | some i =>
    have hi : i.size = 3 := by simpa [hq] using hs
    simp [Builtin.copy_, run_underlying Try.underlying23, Builtin.lenOf, Builtin.firstCells, sizeOf, typeInfo, hq, hi, hl, hst]
/-- What an insertion leaves. -/
def InsTaskP (lo g n : Nat) (zs : List Int) (w : World) (e : Ending) (w' : World) : Prop :=
  ∃ g' c', e = .returned (.slice (some ⟨g', 0, none⟩) n c') ∧ lo ≤ g' ∧ n ≤ c' ∧ Row w' g' zs ∧ w.grownBy w' (some g)
theorem shape_of {w : World} {g : Nat} {cur : Array Value} {t : TypeId} {f : Nat × Nat} (h : w.heap[g]? = some (.cells cur t f)) : w.shape? g = some (t, cur.size) := by unfold World.shape?; rw [h]
section
variable {lo g n c : Nat} {w : World} {zs : List Int}
theorem OwnTask.set (h : OwnTask lo w (.slice (some ⟨g, 0, none⟩) n c) n zs) (j : Nat) (p : Int) : OwnTask lo (w.setCell ⟨g, j, none⟩ (.int .i64 p)) (.slice (some ⟨g, 0, none⟩) n c) n (zs.set j p) :=
  ⟨by have := (World.ownsRow.stored h.1 j (.int .i64 p)).1; rwa [← List.map_set] at this, by rw [List.length_set]; exact h.2⟩
theorem OwnTask.row (h : OwnTask lo w (.slice (some ⟨g, 0, none⟩) n c) n zs) : Row w g zs ∧ lo ≤ g ∧ n ≤ c := by
  rcases h.form with ⟨hv, _⟩ | ⟨g', c', hv, hg, hR, hc, _⟩
  · cases hv
  · injection hv with e1 e2 e3
    injection e1 with e1
    injection e1 with e1
    subst e1 e3
    exact ⟨hR, hg, hc⟩
theorem OwnTask.lim (h : OwnTask lo w (.slice (some ⟨g, 0, none⟩) n c) n zs) : c ≤ 9223372036854775807 := by
  rcases h.1.2 with ⟨hv, _⟩ | ⟨g', cap, cur, hv, hg, hh, hc, hm, hs, ht⟩
  · cases hv
  · injection hv with e1 e2 e3
    subst e3
    unfold maxLen at hm
    exact hm
end
end Go.Proofs.Ytpkombjmbpgdnaa
