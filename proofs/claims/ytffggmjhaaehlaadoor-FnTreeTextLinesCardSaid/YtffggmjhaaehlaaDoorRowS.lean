/- How a law's walk becomes its row: what a call that only makes new blocks leaves behind meets what the row asks of the old memory. No condition. -/
import Derived.Test.YtffggmjhaaehlaaDoorRows
import Derived.Test.YtffggmjhaaehlaaDoorInts
import Derived.Test.YtffggmjhaaehlaaDoorReader
import Derived.OpenShut
import Derived.ProofKit
import Derived.Lib.SmallJoins
namespace Go.Proofs.YtffggmjhaaehlaaDoor
open Go.ChangeShapes Go.WideShapes Go.ChangeAt Go.RowKit Go.Joins

theorem own : ownKnob Tryd.prog.godebug = none := by kernel_rfl

/-- The row's last step, where the world behind the call is the old one with new blocks. -/
theorem post_new {H : Type} {enc : TypeId × Value → H} {P : Program} {f : Func} {s : ChangeSpec} {apart fresh handsOn again : Bool} {W W' : World} {args : Array Value} {v : Value} {ds gs : List (DataW H)} {ps pa pv : List MemPlace}
    (hW : DataW.Whole enc P f.params.toList s.vars apart W args.toList ds gs ps) (hN : New W W') (hp : ps = pa ++ pv)
    (hR : ∀ (b : Nat) (sp : Nat → Bool) (hd : Bool), DataW.TrodAll enc P W' b sp hd f.resultTypes.toList (v.resultList f.resultTypes.size) (s.fn H (ds ++ gs)).results [])
    (hA : ∀ sp : Nat → Bool, (∀ p ∈ ps, sp p.block = true) → DataW.TrodAll enc P W' 0 sp true f.params.toList args.toList (s.fn H (ds ++ gs)).args pa)
    (hV : ∀ sp : Nat → Bool, (∀ p ∈ ps, sp p.block = true) → DataW.TrodVars enc P W' sp s.vars (s.fn H (ds ++ gs)).vars pv)
    (hok : ∀ (j : Nat) (t : TypeId) (r : Value), f.resultTypes[j]? = some t → (v.resultList f.resultTypes.size)[j]? = some r → Value.okWide P W' .any 0 t r) :
    s.post enc P f apart fresh handsOn again W args v W' := by
  have old : ∀ p ∈ ps, p.block < W.heap.size := fun p h => hW.lt p h
  have spare : ∀ p ∈ ps, (fun b => decide (b < W.heap.size)) p.block = true := fun p h => decide_eq_true (old p h)
  have kept : W.keptBut W' (· ∈ ps) := Below.frame hN _
  refine ⟨ds, gs, ps, [], pa, pv, hW, hR _ _ _, hA _ spare, hV _ spare, World.keptBut_mono (fun p h => ⟨h, ?_⟩) kept, fun _ => ?_⟩
  · exact Or.inr (List.mem_append.1 (hp ▸ h))
  · obtain ⟨_, _, _, _, _, hz, hn⟩ := hW
    refine ⟨hok, _, _, ([] ++ pa) ++ pv, ⟨[] ++ pa, pv, trodAll_append (hA _ (fun _ _ => rfl)) (hR _ _ _), hV _ (fun _ _ => rfl), rfl, fun b off h => ?_, fun ha => ?_⟩, fun p h _ => ?_⟩
    · have hin : MemPlace.cell b off ∈ ps := by rw [hp]; simpa using h
      exact (Below.frozen hN (old _ hin)).trans (hz b off hin)
    · have h := hn ha
      rw [hp] at h
      simpa using h
    · rw [hp]
      simpa using h

set_option maxRecDepth 100000 in
/-- A code, as it comes in: a slice of bytes that can be read. -/
theorem open_code {H : Type} {enc : TypeId × Value → H} {W : World} {r : Reach} {b0 : Nat} {v : Value} {d : DataW H} {p : List MemPlace}
    (hv : Value.okWide Tryd.prog W r b0 29 v) (h : DataW.Trod enc Tryd.prog W 0 (fun _ => true) true 29 v d p) :
    ∃ (A : Option Addr) (n c : Nat), v = .slice A n c ∧ n ≤ maxLen ∧ n ≤ c ∧ Bytes W A n := by
  obtain ⟨A, n, c, rfl⟩ := okWide_slice Tryd.underlying29 hv
  obtain ⟨fuel, hf⟩ := h
  refine ⟨A, n, c, rfl, ?_⟩
  rcases open_ints Tryd.underlying29 Tryd.underlying5 (by kernel_rfl) hf with ⟨hcs, _⟩ | ⟨x, l, k, zs, hcs, _, hl, hm, hz, _, hcell, hwz⟩
  · simp [Value.cells] at hcs
    obtain ⟨rfl, rfl, rfl⟩ := hcs
    exact ⟨Nat.zero_le _, Nat.le_refl _, fun i hi => absurd hi (by omega)⟩
  · simp [Value.cells] at hcs
    obtain ⟨rfl, rfl, rfl⟩ := hcs
    refine ⟨by omega, hl, fun i hi => ?_⟩
    have hlen : zs.length = c := by simpa using hz
    obtain ⟨b1, off, rfl, hat⟩ := ints_at hcell (by omega)
    have hc := hat i (by omega)
    have hmem : zs.getD i 0 ∈ zs := by
      have hi' : i < zs.length := by omega
      have e : zs.getD i 0 = zs[i] := by simp [hi']
      rw [e]; exact List.getElem_mem hi'
    have hwf := hwz _ hmem
    have h0 : 0 ≤ zs.getD i 0 ∧ zs.getD i 0 < 256 := by
      generalize zs.getD i 0 = y at hwf
      simp [Lit.wf, IntKind.min, IntKind.max, IntKind.signed, IntKind.bits] at hwf
      omega
    obtain ⟨y, hy⟩ := Int.eq_ofNat_of_zero_le h0.1
    rw [hy] at hc h0
    exact ⟨b1, off, y, rfl, World.block_lt_of_cell? W _ hc, by omega, hc⟩

set_option maxRecDepth 100000 in
/-- Whole numbers, as they come in: a slice that can be read. -/
theorem open_nums {H : Type} {enc : TypeId × Value → H} {W : World} {r : Reach} {b0 : Nat} {v : Value} {d : DataW H} {p : List MemPlace}
    (hv : Value.okWide Tryd.prog W r b0 55 v) (h : DataW.Trod enc Tryd.prog W 0 (fun _ => true) true 55 v d p) :
    ∃ (A : Option Addr) (n c : Nat) (xs : List Int), v = .slice A n c ∧ n ≤ maxLen ∧ n ≤ c ∧ Ints W A n xs := by
  obtain ⟨A, n, c, rfl⟩ := okWide_slice Tryd.underlying55 hv
  obtain ⟨fuel, hf⟩ := h
  rcases open_ints Tryd.underlying55 Tryd.underlying3 (by kernel_rfl) hf with ⟨hcs, _⟩ | ⟨x, l, k, zs, hcs, _, hl, hm, hz, _, hcell, hwz⟩
  · simp [Value.cells] at hcs
    obtain ⟨rfl, rfl, rfl⟩ := hcs
    exact ⟨none, 0, 0, [], rfl, Nat.zero_le _, Nat.le_refl _, ⟨rfl, fun hh => absurd hh (by omega)⟩⟩
  · simp [Value.cells] at hcs
    obtain ⟨rfl, rfl, rfl⟩ := hcs
    have hlen : zs.length = c := by simpa using hz
    refine ⟨_, n, c, zs.take n, rfl, by omega, hl, ⟨by rw [List.length_take]; omega, fun hn => ?_⟩⟩
    obtain ⟨b1, off, rfl, hat⟩ := ints_at hcell (by omega)
    refine ⟨b1, off, rfl, World.block_lt_of_cell? W _ (hat 0 (by omega)), fun i hi => ?_⟩
    have hc := hat i (by omega)
    have e : (zs.take n).getD i 0 = zs.getD i 0 := by
      simp [hi]
    rw [e]
    exact hc
end Go.Proofs.YtffggmjhaaehlaaDoor
