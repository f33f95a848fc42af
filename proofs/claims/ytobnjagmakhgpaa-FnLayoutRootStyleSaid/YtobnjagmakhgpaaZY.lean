/- Parts that belong together: RowS, RowF, RowBox. Conditions: as each part says. -/
import Derived.Test.YtobnjagmakhgpaaRows
import Derived.Test.YtobnjagmakhgpaaZA
import Derived.Test.YtobnjagmakhgpaaZC
import Derived.OpenShut
import Derived.ProofKit
import Derived.Lib.SmallJoins
import Derived.Test.YtobnjagmakhgpaaZN
import Derived.Test.YtobnjagmakhgpaaZX
/- How a law's walk becomes its row: what a call that only makes new blocks leaves behind meets what the row asks of the old memory. No condition. -/
namespace Go.Proofs.Ytobnjagmakhgpaa
open Go.ChangeShapes Go.WideShapes Go.ChangeAt Go.RowKit Go.Joins

theorem own : ownKnob Try.prog.godebug = none := by kernel_rfl

/-- The row's last step, where the world behind the call is the old one with new blocks. -/
theorem post_new {H : Type} {enc : TypeId × Value → H} {P : Program} {f : Func} {s : ChangeSpec} {apart fresh handsOn again : Bool} {W W' : World} {args : Array Value} {v : Value} {ds gs : List (DataW H)} {ps pa pv : List MemPlace}
    (hW : DataW.Whole enc P f.params.toList s.vars apart W args.toList ds gs ps) (hN : New W W') (hp : ps = pa ++ pv)
    (hR : ∀ (b : Nat) (sp : Nat → Bool) (hd : Bool), DataW.TrodAll enc P W' b sp hd f.resultTypes.toList (v.resultList f.resultTypes.size) (s.fn H (ds ++ gs)).results [])
    (hA : ∀ sp : Nat → Bool, (∀ p ∈ ps, sp p.block = true) → DataW.TrodAll enc P W' 0 sp true f.params.toList args.toList (s.fn H (ds ++ gs)).args pa)
    (hV : ∀ sp : Nat → Bool, (∀ p ∈ ps, sp p.block = true) → DataW.TrodVars enc P W' sp s.vars (s.fn H (ds ++ gs)).vars pv)
    (hok : ∀ (j : Nat) (t : TypeId) (r : Value), f.resultTypes[j]? = some t → (v.resultList f.resultTypes.size)[j]? = some r → Value.okWide P W' .any 0 t r) :
    s.post enc P f apart fresh handsOn again W args v W' := by
  have old : ∀ p ∈ ps, p.block < W.heap.size := fun p h => hW.lt p h
  have spare : ∀ p ∈ ps, (fun b => decide (b < W.heap.size)) p.block = true := fun p h => decide_eq_true (old p h)
  have kept : W.keptBut W' (· ∈ ps) := Below.frame hN _
  refine ⟨ds, gs, ps, [], pa, pv, hW, hR _ _ _, hA _ spare, hV _ spare, World.keptBut_mono (fun p h => ⟨h, ?_⟩) kept, fun _ => ?_⟩
  · exact Or.inr (List.mem_append.1 (hp ▸ h))
  · obtain ⟨_, _, _, _, _, hz, hn⟩ := hW
    refine ⟨hok, _, _, ([] ++ pa) ++ pv, ⟨[] ++ pa, pv, trodAll_append (hA _ (fun _ _ => rfl)) (hR _ _ _), hV _ (fun _ _ => rfl), rfl, fun b off h => ?_, fun ha => ?_⟩, fun p h _ => ?_⟩
    · have hin : MemPlace.cell b off ∈ ps := by rw [hp]; simpa using h
      exact (Below.frozen hN (old _ hin)).trans (hz b off hin)
    · have h := hn ha
      rw [hp] at h
      simpa using h
    · rw [hp]
      simpa using h

set_option maxRecDepth 100000 in
/-- A code, as it comes in: a slice of bytes that can be read. -/
theorem open_code {H : Type} {enc : TypeId × Value → H} {W : World} {r : Reach} {b0 : Nat} {v : Value} {d : DataW H} {p : List MemPlace}
    (hv : Value.okWide Try.prog W r b0 22 v) (h : DataW.Trod enc Try.prog W 0 (fun _ => true) true 22 v d p) :
    ∃ (A : Option Addr) (n c : Nat), v = .slice A n c ∧ n ≤ maxLen ∧ n ≤ c ∧ Bytes W A n := by
  obtain ⟨A, n, c, rfl⟩ := okWide_slice Try.underlying22 hv
  obtain ⟨fuel, hf⟩ := h
  refine ⟨A, n, c, rfl, ?_⟩
  rcases open_ints Try.underlying22 Try.underlying5 (by kernel_rfl) hf with ⟨hcs, _⟩ | ⟨x, l, k, zs, hcs, _, hl, hm, hz, _, hcell, hwz⟩
  · simp [Value.cells] at hcs
    obtain ⟨rfl, rfl, rfl⟩ := hcs
    exact ⟨Nat.zero_le _, Nat.le_refl _, fun i hi => absurd hi (by omega)⟩
  · simp [Value.cells] at hcs
    obtain ⟨rfl, rfl, rfl⟩ := hcs
    refine ⟨by omega, hl, fun i hi => ?_⟩
    have hlen : zs.length = c := by simpa using hz
    obtain ⟨b1, off, rfl, hat⟩ := ints_at hcell (by omega)
    have hc := hat i (by omega)
    have hmem : zs.getD i 0 ∈ zs := by
      have hi' : i < zs.length := by omega
      have e : zs.getD i 0 = zs[i] := by simp [hi']
      rw [e]; exact List.getElem_mem hi'
    have hwf := hwz _ hmem
    have h0 : 0 ≤ zs.getD i 0 ∧ zs.getD i 0 < 256 := by
      generalize zs.getD i 0 = y at hwf
      simp [Lit.wf, IntKind.min, IntKind.max, IntKind.signed, IntKind.bits] at hwf
      omega
    obtain ⟨y, hy⟩ := Int.eq_ofNat_of_zero_le h0.1
    rw [hy] at hc h0
    exact ⟨b1, off, y, rfl, World.block_lt_of_cell? W _ hc, by omega, hc⟩

set_option maxRecDepth 100000 in
/-- Whole numbers, as they come in: a slice that can be read. -/
theorem open_nums {H : Type} {enc : TypeId × Value → H} {W : World} {r : Reach} {b0 : Nat} {v : Value} {d : DataW H} {p : List MemPlace}
    (hv : Value.okWide Try.prog W r b0 31 v) (h : DataW.Trod enc Try.prog W 0 (fun _ => true) true 31 v d p) :
    ∃ (A : Option Addr) (n c : Nat) (xs : List Int), v = .slice A n c ∧ n ≤ maxLen ∧ n ≤ c ∧ Ints W A n xs := by
  obtain ⟨A, n, c, rfl⟩ := okWide_slice Try.underlying31 hv
  obtain ⟨fuel, hf⟩ := h
  rcases open_ints Try.underlying31 Try.underlying3 (by kernel_rfl) hf with ⟨hcs, _⟩ | ⟨x, l, k, zs, hcs, _, hl, hm, hz, _, hcell, hwz⟩
  · simp [Value.cells] at hcs
    obtain ⟨rfl, rfl, rfl⟩ := hcs
    exact ⟨none, 0, 0, [], rfl, Nat.zero_le _, Nat.le_refl _, ⟨rfl, fun hh => absurd hh (by omega)⟩⟩
  · simp [Value.cells] at hcs
    obtain ⟨rfl, rfl, rfl⟩ := hcs
    have hlen : zs.length = c := by simpa using hz
    refine ⟨_, n, c, zs.take n, rfl, by omega, hl, ⟨by rw [List.length_take]; omega, fun hn => ?_⟩⟩
    obtain ⟨b1, off, rfl, hat⟩ := ints_at hcell (by omega)
    refine ⟨b1, off, rfl, World.block_lt_of_cell? W _ (hat 0 (by omega)), fun i hi => ?_⟩
    have hc := hat i (by omega)
    have e : (zs.take n).getD i 0 = zs.getD i 0 := by
      simp [hi]
    rw [e]
    exact hc
end Go.Proofs.Ytobnjagmakhgpaa

/- Flexible sizes, as they come in: a slice of structs that can be read. No condition. -/
namespace Go.Proofs.Ytobnjagmakhgpaa
open Go.ChangeShapes Go.WideShapes Go.ChangeAt Go.RowKit Go.Deep

section
variable {H : Type} {enc : TypeId × Value → H} {P : Program} {w : World} {base : Nat} {spare : Nat → Bool} {held : Bool}
/-- Each field's cell of each element of a slice of structs of one-cell fields. -/
theorem open_cells {t e : TypeId} {fs : Array Field} {fuel : Nat} {cs : List Value} {x : DataW H × List MemPlace} (ht : P.underlying t = some (.slice e)) (he : P.underlying e = some (.struct fs))
    (hone : oneCellFields P fs = true) (hC : P.cellsOf e = fs.size) (h : DataW.trod enc P w base spare held fuel t cs = some x) :
    (cs = [.slice none 0 0]) ∨
    ∃ (a : Addr) (len cap : Nat), cs = [.slice (some a) len cap] ∧ len ≤ cap ∧ cap ≤ maxLen ∧
      ∀ i, i < len → ∀ (j : Nat) (f : Field), fs[j]? = some f → ∃ (v : Value) (y : DataW H × List MemPlace) (n : Nat), w.cell? (a.add (i * fs.size + j)) = some v ∧ DataW.trod enc P w base spare held n f.type [v] = some y := by
  rcases open_slice ht h with h0 | ⟨a, len, cap, m, n, D, Pl, hcs, hb, hl, hm, hmm, hx, hi⟩
  · exact .inl h0.1
  · refine .inr ⟨a, len, cap, hcs, hl, hm, fun i him => ?_⟩
    obtain ⟨cs', hc, ht'⟩ := hi i (by rw [hmm]; split <;> omega)
    rw [hC] at hc
    obtain ⟨ys, n', hn', hy, hlen, hyl, hf⟩ := DataW.trod_struct he ht'
    obtain ⟨_, hcl, hat⟩ := World.cells?_some hc
    intro j f hj
    obtain ⟨ho, hk⟩ := hone_of hone j f hj
    have hjl : j < fs.size := (Array.getElem?_eq_some_iff.1 hj).1
    have hcell := hat j hjl
    have hv : cs'[j]? = some (cs'[j]'(by omega)) := List.getElem?_eq_getElem (by omega)
    have h1 := hf j f hj
    rw [ho, hk] at h1
    have hone' : (cs'.drop j).take 1 = [cs'[j]'(by omega)] := by
      rw [List.drop_eq_getElem_cons (by omega)]
      rfl
    rw [hone'] at h1
    have hys : ys[j]? = some (ys[j]'(by omega)) := List.getElem?_eq_getElem (by omega)
    refine ⟨_, _, _, ?_, h1.trans hys⟩
    rw [← Go.Deep.add_add, hcell, hv]
end
/-- Cells that hold numbers hold the numbers of a list. -/
theorem list_of (n : Nat) (P : Nat → Int → Prop) (h : ∀ i, i < n → ∃ z, P i z) : ∃ zs : List Int, zs.length = n ∧ ∀ i, i < n → P i (zs.getD i 0) := by
  induction n with
  | zero => exact ⟨[], rfl, fun i hi => absurd hi (by omega)⟩
  | succ n ih =>
    obtain ⟨zs, hl, hz⟩ := ih fun i hi => h i (by omega)
    obtain ⟨z, hp⟩ := h n (by omega)
    refine ⟨zs ++ [z], by simp [hl], fun i hi => ?_⟩
    rcases Nat.lt_or_ge i n with hlt | hge
    · have e : (zs ++ [z]).getD i 0 = zs.getD i 0 := by simp [List.getElem?_append_left (show i < zs.length by omega)]
      rw [e]; exact hz i hlt
    · have e : i = n := by omega
      subst e
      have e2 : (zs ++ [z]).getD i 0 = z := by simp [← hl]
      rw [e2]; exact hp
end Go.Proofs.Ytobnjagmakhgpaa

/- Boxs, as they come in: a slice of structs that can be read. No condition. -/
namespace Go.Proofs.Ytobnjagmakhgpaa
open Go.ChangeShapes Go.WideShapes Go.ChangeAt Go.RowKit Go.Deep

end Go.Proofs.Ytobnjagmakhgpaa
