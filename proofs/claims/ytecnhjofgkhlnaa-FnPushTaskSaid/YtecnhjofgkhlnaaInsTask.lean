/- slices.Insert of one Task into a list of the call's own, walked. Conditions: the list is short; the Task lies in another block. -/
import Derived.Test.YtecnhjofgkhlnaaTaskB
import Derived.Shelf.Spec.SlicesInsert
import Derived.Lib.AppendZerosOnto
import Derived.Deep.RegionLaw
namespace Go.Proofs.Ytecnhjofgkhlnaa
open Go.RowKit

/-- One struct more at a place. -/
def insTask (zs : List Int) (k : Nat) (es : List Int) : List Int := zs.take (k * 3) ++ es ++ zs.drop (k * 3)
theorem insTask_len {zs es : List Int} {k n : Nat} (hz : zs.length = n * 3) (he : es.length = 3) (hk : k ≤ n) : (insTask zs k es).length = (n + 1) * 3 := by
  unfold insTask; rw [List.length_append, List.length_append, List.length_take, List.length_drop]; omega
theorem insTask_get {zs es : List Int} {k n j : Nat} (hz : zs.length = n * 3) (he : es.length = 3) (hk : k ≤ n) :
    (insTask zs k es).getD j 0 = if j < k * 3 then zs.getD j 0 else if j < (k + 1) * 3 then es.getD (j - k * 3) 0 else zs.getD (j - 3) 0 := by
  have hl : (zs.take (k * 3)).length = k * 3 := by rw [List.length_take]; omega
  have hl2 : (zs.take (k * 3) ++ es).length = (k + 1) * 3 := by rw [List.length_append, hl, he]; omega
  unfold insTask
  split
  · next h => rw [List.getD_eq_getElem?_getD, List.getElem?_append_left (by omega), List.getElem?_append_left (by omega), List.getElem?_take_of_lt h, List.getD_eq_getElem?_getD]
  · split
    · next h1 h2 => rw [List.getD_eq_getElem?_getD, List.getElem?_append_left (by omega), List.getElem?_append_right (by omega), hl, List.getD_eq_getElem?_getD]
    · next h1 h2 => rw [List.getD_eq_getElem?_getD, List.getElem?_append_right (by omega), hl2, List.getElem?_drop, List.getD_eq_getElem?_getD]; congr 2; omega
/-- What stores of a list into a block leave. -/
structure Cpd (W W' : World) (g o : Nat) (cs : List Int) : Prop where
  cin : ∀ j, j < cs.length → W'.cell? ⟨g, o + j, none⟩ = some (.int .i64 (cs.getD j 0))
  cout : ∀ x : Addr, (x.block = g → x.spot = none → x.off < o ∨ o + cs.length ≤ x.off) → W'.cell? x = W.cell? x
  fz : ∀ x, W'.frozen? x = W.frozen? x
  gr : W.grownBy W' (some g)
theorem Cpd.of {W : World} {g o : Nat} {cs : List Int} (h : ∀ j, j < cs.length → (W.cell? ⟨g, o + j, none⟩).isSome = true) : Cpd W (W.setCells g o (cs.map (Value.int .i64))) g o cs := by
  have grown : ∀ (vs : List Value) (p : Nat) (w0 w1 : World), w0.grownBy w1 (some g) → w0.grownBy (w1.setCells g p vs) (some g) := fun vs => by
    induction vs with
    | nil => intro p w0 w1 h; exact h
    | cons v vs ih => intro p w0 w1 h; exact ih (p + 1) w0 _ (own_set h v (k := p))
  refine ⟨fun j hj => ?_, fun x hx => ?_, fun x => World.frozen?_setCells g _ o W x, grown _ o W W (World.grownBy.refl W (some g))⟩
  · rw [World.cell?_setCells_in g (cs.map (Value.int .i64)) o W (fun j hj => h j (by simpa using hj)) j (by simpa using hj)]
    simp [hj]
  · exact World.cell?_setCells_out g (cs.map (Value.int .i64)) o W x (fun h1 h2 => by rw [List.length_map]; exact hx h1 h2)
theorem run_cpTask (w : World) (ty : TypeId) (g o dLen dCap : Nat) (b p sLen sCap : Nat) (cs : List Int) (hn : cs.length = Nat.min sLen dLen * 3)
    (hsrc : ∀ j, j < cs.length → w.cell? ⟨b, p + j, none⟩ = some (.int .i64 (cs.getD j 0))) (hc : ∀ j, j < cs.length → (w.cell? ⟨g, o + j, none⟩).isSome = true) (hf : ∀ j, j < cs.length → w.frozen? ⟨g, o + j, none⟩ = false) :
    (Builtin.copy_ #[25, 25] ty #[.slice (some ⟨g, o, none⟩) dLen dCap, .slice (some ⟨b, p, none⟩) sLen sCap]).run Try.prog w = .ok (goInt (Nat.min sLen dLen)) (w.setCells g o (cs.map (Value.int .i64))) := by
  have hs : (Try.prog.info? 43).map (·.size) = some 3 := by kernel_rfl
  have hl := run_loadCells_list (P := Try.prog) w ⟨b, p, none⟩ (cs.map (Value.int .i64)) (fun j u hu => by
    have hj : j < cs.length := by
      rcases Nat.lt_or_ge j cs.length with h1 | h1
      · exact h1
      · rw [List.getElem?_eq_none (by simpa using h1)] at hu; cases hu
    have e : u = .int .i64 (cs.getD j 0) := by
      simp [hj] at hu ⊢
      exact hu.symm
    rw [e, Go.WideShapes.add_plain]
    exact hsrc j hj)
  have hst := run_storeCells_cells (P := Try.prog) g o (cs.map (Value.int .i64)) 0 w (fun j hj => by simpa using hc j (by simpa using hj)) (fun j hj => by simpa using hf j (by simpa using hj)) (fun u hu => by
    obtain ⟨z, _, rfl⟩ := List.mem_map.1 hu
    rfl)
  rw [List.length_map, hn] at hl
  cases hq : Try.prog.info? 43 with
  | none => simp [hq] at hs
  | some i =>
    have hi : i.size = 3 := by simpa [hq] using hs
    simp [Builtin.copy_, run_underlying Try.underlying25, Builtin.lenOf, Builtin.firstCells, sizeOf, typeInfo, hq, hi, hl, hst]
/-- What an insertion leaves. -/
def InsTaskP (lo g n : Nat) (zs : List Int) (w : World) (e : Ending) (w' : World) : Prop :=
  ∃ g' c', e = .returned (.slice (some ⟨g', 0, none⟩) n c') ∧ lo ≤ g' ∧ n ≤ c' ∧ Row w' g' zs ∧ w.grownBy w' (some g)
theorem shape_of {w : World} {g : Nat} {cur : Array Value} {t : TypeId} {f : Nat × Nat} (h : w.heap[g]? = some (.cells cur t f)) : w.shape? g = some (t, cur.size) := by unfold World.shape?; rw [h]
set_option maxRecDepth 100000 in
set_option maxHeartbeats 4000000 in
theorem InsertTask_room (lo g n c k E : Nat) (zs es : List Int) (hk : k < n) (hn : n ≤ 1000) (hroom : n + 1 ≤ c) (w : World) (ho : OwnTask lo w (.slice (some ⟨g, 0, none⟩) n c) n zs)
    (hE : w.heap[E]? = some (.cells (es.map (Value.int .i64)).toArray 43 (0, 0))) (hes : es.length = 3) (hne : E ≠ g) :
    Calls Try.prog 52 #[.slice (some ⟨g, 0, none⟩) n c, .int .i64 (k : Int), .slice (some ⟨E, 0, none⟩) 1 1] w (InsTaskP lo g (n + 1) (insTask zs k es) w) := by
  obtain ⟨⟨_, h2⟩, hl⟩ := ho
  rcases h2 with ⟨hv, _⟩ | ⟨g', cap, cur, hv, hg, hh, hc, hm, hs, ht⟩
  · cases hv
  injection hv with e1 e2 e3
  injection e1 with e1
  injection e1 with e1
  subst e1 e3
  have hcell : ∀ j, j < n * 3 → w.cell? ⟨g, j, none⟩ = some (.int .i64 (zs.getD j 0)) := fun j hj => by
    rw [cell_of_row w g j cur 43 (0, 0) hh]
    have e : cur[j]? = (cur.toList.take (n * 3))[j]? := by
      rw [List.getElem?_take_of_lt hj]
      simp
    rw [e, ht]
    simp [show j < zs.length by omega]
  have hex : ∀ j, j < c * 3 → (w.cell? ⟨g, j, none⟩).isSome = true := fun j hj => by
    rw [cell_of_row w g j cur 43 (0, 0) hh, Array.getElem?_eq_getElem (by omega)]; rfl
  have hfz : ∀ j, w.frozen? ⟨g, j, none⟩ = false := fun j => by simp [World.frozen?, hh]
  have hec : ∀ j, j < 3 → w.cell? ⟨E, j, none⟩ = some (.int .i64 (es.getD j 0)) := fun j hj => by
    rw [cell_of_row w E j _ 43 (0, 0) hE]
    simp [show j < es.length by omega]
  have hfe : ∀ j, w.frozen? ⟨E, j, none⟩ = false := fun j => by simp [World.frozen?, hE]
  have hlt : g < w.heap.size := by
    rcases Nat.lt_or_ge g w.heap.size with h1 | h1
    · exact h1
    · rw [Array.getElem?_eq_none h1] at hh; cases hh
  have hov : ∀ o lb cb, (callFunc 65 #[.slice (some ⟨E, 0, none⟩) 1 1, .slice (some ⟨g, o, none⟩) lb cb]).run Try.prog w = .ok (.value (.bool false)) w := fun o lb cb => by
    rw [run_callFunc_extern Try.func65 (by kernel_rfl) (by kernel_rfl) (by kernel_rfl) (e := Extern.SlicesOverlaps.overlaps #[25, 25] #[4]) (by kernel_rfl),
      Lib.run_overlaps_apart w 25 4 43 Try.underlying25 3 Try.sizeOf43 ⟨E, 0, none⟩ ⟨g, o, none⟩ 1 1 lb cb hne 43 43 _ _ (shape_of hE) (shape_of hh) (by omega) (hfe 0) (hfe _)]
    rfl
  obtain ⟨ds, hds⟩ : ∃ ds, zs.drop (k * 3) = ds := ⟨_, rfl⟩
  have hdl : ds.length = (n - k) * 3 := by rw [← hds, List.length_drop, hl]; omega
  have hdg : ∀ j, j < ds.length → ds.getD j 0 = zs.getD (k * 3 + j) 0 := fun j _ => by rw [← hds, List.getD_eq_getElem?_getD, List.getElem?_drop, List.getD_eq_getElem?_getD]
  have C1 := Cpd.of (W := w.drew) (g := g) (o := (k + 1) * 3) (cs := ds) (fun j hj => hex _ (by omega))
  have hcp1 : ∀ ty dc sc, (Builtin.copy_ #[25, 25] ty #[.slice (some ⟨g, (k + 1) * 3, none⟩) (n - k) dc, .slice (some ⟨g, k * 3, none⟩) (n + 1 - k) sc]).run Try.prog w.drew = .ok (goInt (Nat.min (n + 1 - k) (n - k))) (w.drew.setCells g ((k + 1) * 3) (ds.map (Value.int .i64))) := fun ty dc sc =>
    run_cpTask w.drew ty g ((k + 1) * 3) (n - k) dc g (k * 3) (n + 1 - k) sc ds (by rw [hdl]; simp only [Nat.min_def]; split <;> omega) (fun j hj => by rw [hdg j hj]; exact hcell _ (by omega)) (fun j hj => hex _ (by omega)) (fun j _ => hfz _)
  obtain ⟨W1, hW1⟩ : ∃ W1, w.drew.setCells g ((k + 1) * 3) (ds.map (Value.int .i64)) = W1 := ⟨_, rfl⟩
  rw [hW1] at C1 hcp1
  have hx1 : ∀ j, j < c * 3 → (W1.cell? ⟨g, j, none⟩).isSome = true := fun j hj => by
    by_cases h1 : (k + 1) * 3 ≤ j ∧ j < (k + 1) * 3 + ds.length
    · have := C1.cin (j - (k + 1) * 3) (by omega)
      rw [show (k + 1) * 3 + (j - (k + 1) * 3) = j by omega] at this
      rw [this]; rfl
    · rw [C1.cout ⟨g, j, none⟩ (fun _ _ => by show j < _ ∨ _ ≤ j; omega)]; exact hex j hj
  have C2 := Cpd.of (W := W1) (g := g) (o := k * 3) (cs := es) (fun j hj => hx1 _ (by omega))
  have hcp2 : ∀ ty dc, (Builtin.copy_ #[25, 25] ty #[.slice (some ⟨g, k * 3, none⟩) (n + 1 - k) dc, .slice (some ⟨E, 0, none⟩) 1 1]).run Try.prog W1 = .ok (goInt (Nat.min 1 (n + 1 - k))) (W1.setCells g (k * 3) (es.map (Value.int .i64))) := fun ty dc =>
    run_cpTask W1 ty g (k * 3) (n + 1 - k) dc E 0 1 1 es (by rw [hes]; simp only [Nat.min_def]; split <;> omega) (fun j hj => by rw [C1.cout ⟨E, 0 + j, none⟩ (fun h _ => absurd h hne), Nat.zero_add]; exact hec j (by omega)) (fun j hj => hx1 _ (by omega)) (fun j _ => by rw [C1.fz]; exact hfz _)
  obtain ⟨W2, hW2⟩ : ∃ W2, W1.setCells g (k * 3) (es.map (Value.int .i64)) = W2 := ⟨_, rfl⟩
  rw [hW2] at C2 hcp2
  have G2 : w.grownBy W2 (some g) := ⟨C2.gr.os.trans C1.gr.os, C2.gr.tape.trans C1.gr.tape, C2.gr.output.trans C1.gr.output, Nat.le_trans C1.gr.size C2.gr.size, fun i hi hne2 => (C2.gr.block i (Nat.lt_of_lt_of_le hi C1.gr.size) hne2).trans (C1.gr.block i hi hne2)⟩
  have R2 : Row W2 g (insTask zs k es) := by
    refine ⟨Nat.lt_of_lt_of_le hlt G2.size, fun j hj => ?_, fun j _ => by rw [C2.fz, C1.fz]; exact hfz _⟩
    rw [insTask_len hl hes (by omega)] at hj
    rw [insTask_get hl hes (by omega)]
    by_cases h1 : j < k * 3
    · rw [if_pos h1, C2.cout ⟨g, j, none⟩ (fun _ _ => .inl h1), C1.cout ⟨g, j, none⟩ (fun _ _ => .inl (by show j < _; omega))]
      exact hcell j (by omega)
    · rw [if_neg h1]
      by_cases h2 : j < (k + 1) * 3
      · rw [if_pos h2]
        have := C2.cin (j - k * 3) (by omega)
        rwa [show k * 3 + (j - k * 3) = j by omega] at this
      · rw [if_neg h2, C2.cout ⟨g, j, none⟩ (fun _ _ => .inr (by show _ ≤ j; omega))]
        have := C1.cin (j - (k + 1) * 3) (by omega)
        rw [show (k + 1) * 3 + (j - (k + 1) * 3) = j by omega, hdg _ (by omega), show k * 3 + (j - (k + 1) * 3) = j - 3 by omega] at this
        exact this
  have HOV := Lib.hid hov; have FIN := Lib.hid (And.intro R2 G2); have HG := Lib.hid hg
  have hz2 : ((k : Int) == (n : Int)) = false := by simp; omega
  have hz3 : (k == n) = false := by simp; omega
  have hr : (n : Int) + 1 ≤ (c : Int) := by omega
  have k0 : (0 : Int) ≤ (k : Int) := by omega
  have k1 : (k : Int) < (n : Int) := by omega
  have n1 : (n : Int) ≤ 1000 := by omega
  have hw1 : IntKind.i64.wrap ((k : Int) + 1) = (k : Int) + 1 := IntWalk.i64_in _ (by omega)
  have htn : ((k : Int) + 1).toNat = k + 1 := by omega
  have htn2 : ((n : Int) + 1).toNat = n + 1 := by omega
  have hb1 : (0 : Int) ≤ (k : Int) + 1 := by omega
  have hb5 : k ≤ n := by omega
  have hb6 : (k : Int) ≤ (n : Int) + 1 := by omega
  have hb2 : ¬ (c = k + 1) := by omega
  have hb4 : ¬ (c = k) := by omega
  unfold maxLen at hm
  have cm : (c : Int) ≤ 9223372036854775807 := by omega
  clear hl hs ht hh hcell hex hfz hec hfe hlt hov hdl hdg hx1 hW1 hW2 C1 C2 G2 R2 hE hes hds hg
  have hov := HOV.out
  go_enter Try.func52, Try.ntmps52
  go_wp2_with (simp only [hov])
  go_region_law (refine step_copy_runI rfl _ _ 25 25 rfl _ _ (by simp [Act.eval, Act.put]) (by simp [Act.eval, Act.put]) (hcp1 _ _ _) ?_)
  go_wp2_with (at_builtin; refine wpList_copy_runI _ rfl _ _ 25 25 rfl _ _ rfl rfl (hcp2 _ _) ?_)
  go_ret
  exact ⟨g, c, rfl, HG.out, by omega, FIN.out.1, FIN.out.2⟩
set_option maxRecDepth 100000 in
set_option maxHeartbeats 4000000 in
theorem InsertTask_grow (lo g n c k E : Nat) (zs es : List Int) (hk : k < n) (hn : n ≤ 1000) (hroom : c < n + 1) (w : World) (hlo : lo ≤ w.heap.size) (ho : OwnTask lo w (.slice (some ⟨g, 0, none⟩) n c) n zs)
    (hE : w.heap[E]? = some (.cells (es.map (Value.int .i64)).toArray 43 (0, 0))) (hes : es.length = 3) (_hne : E ≠ g) :
    Calls Try.prog 52 #[.slice (some ⟨g, 0, none⟩) n c, .int .i64 (k : Int), .slice (some ⟨E, 0, none⟩) 1 1] w (InsTaskP lo g (n + 1) (insTask zs k es) w) := by
  obtain ⟨⟨_, h2⟩, hl⟩ := ho
  rcases h2 with ⟨hv, _⟩ | ⟨g', cap, cur, hv, hg, hh, hc, hm, hs, ht⟩
  · cases hv
  injection hv with e1 e2 e3
  injection e1 with e1
  injection e1 with e1
  subst e1 e3
  have hcell : ∀ j, j < n * 3 → w.cell? ⟨g, j, none⟩ = some (.int .i64 (zs.getD j 0)) := fun j hj => by
    rw [cell_of_row w g j cur 43 (0, 0) hh]
    have e : cur[j]? = (cur.toList.take (n * 3))[j]? := by
      rw [List.getElem?_take_of_lt hj]
      simp
    rw [e, ht]
    simp [show j < zs.length by omega]
  have hec : ∀ j, j < 3 → w.cell? ⟨E, j, none⟩ = some (.int .i64 (es.getD j 0)) := fun j hj => by
    rw [cell_of_row w E j _ 43 (0, 0) hE]
    simp [show j < es.length by omega]
  have hlt : g < w.heap.size := by
    rcases Nat.lt_or_ge g w.heap.size with h1 | h1
    · exact h1
    · rw [Array.getElem?_eq_none h1] at hh; cases hh
  have hEl : E < w.heap.size := by
    rcases Nat.lt_or_ge E w.heap.size with h1 | h1
    · exact h1
    · rw [Array.getElem?_eq_none h1] at hE; cases hE
  obtain ⟨i0, hi0, hz0, hzs, hzb⟩ := info_parts info_Task
  have hold : (Builtin.firstCells i0.size k (.slice (some ⟨g, 0, none⟩) k c)).run Try.prog w.drew = .ok ((zs.take (k * 3)).map (Value.int .i64)).toArray w.drew := by
    rw [hzs]
    exact run_firstCells_some w.drew 3 k ⟨g, 0, none⟩ k c ((zs.take (k * 3)).map (Value.int .i64)) (by rw [List.length_map, List.length_take]; omega) (fun j u hu => by
      have hj : j < k * 3 := by
        rcases Nat.lt_or_ge j (k * 3) with h1 | h1
        · exact h1
        · rw [List.getElem?_eq_none (by rw [List.length_map, List.length_take]; omega)] at hu; cases hu
      have e : u = .int .i64 (zs.getD j 0) := by
        rw [List.getElem?_map, List.getElem?_take_of_lt hj] at hu
        simp [show j < zs.length by omega] at hu ⊢
        exact hu.symm
      rw [e, Go.WideShapes.add_plain, Nat.zero_add]
      exact hcell j (by omega))
  have hkk : (n : Int) + 1 - (k : Int) = ((n + 1 - k : Nat) : Int) := by omega
  have hik : k + (n + 1 - k) = n + 1 := by omega
  obtain ⟨G, hG⟩ : ∃ G, G = grownCap w (n + 1) c 43 := ⟨_, rfl⟩
  obtain ⟨ROW, hROW⟩ : ∃ ROW : Array Value, ROW = ((zs.take (k * 3)).map (Value.int .i64)).toArray ++ Builtin.zeroCells (Value.agg #[Value.int .i64 0, Value.int .i64 0, Value.int .i64 0]).cells (n + 1 - k) ++ Builtin.zeroCells (Value.agg #[Value.int .i64 0, Value.int .i64 0, Value.int .i64 0]).cells (G - (n + 1)) := ⟨_, rfl⟩
  have hrz : ∀ ty, (Builtin.append_ #[25, 3] ty #[.slice (some ⟨g, 0, none⟩) k c, .int .i64 ((n : Int) + 1 - (k : Int))]).run Try.prog w =
      .ok (.slice (some ⟨w.heap.size, 0, none⟩) (n + 1) G) (w.drew.alloc (.cells ROW 43)) := fun ty => by
    have h := Lib.run_append_grow_zeros w 25 3 ty 43 i0 _ .i64 .i64 Try.underlying25 Try.underlying3 hi0 hz0 (some ⟨g, 0, none⟩) k c ((zs.take (k * 3)).map (Value.int .i64)) hold (n + 1 - k) (by omega) (by omega) (by omega) (by omega) (by rw [hzb]; omega) (by rw [hzb, hik]; exact growslice_fits hroom (by omega))
    rw [hik, ← hG, ← hROW] at h
    rw [hkk]
    exact h
  have hGn : n + 1 ≤ G := by rw [hG]; exact grownCap_ge w _ _ _
  have hG63 : G ≤ 9223372036854775807 := by
    have := grownCap_le_maxLen w (n + 1) c 43 (by unfold maxLen; omega)
    rw [← hG] at this
    unfold maxLen at this
    omega
  have hRl : (n + 1) * 3 ≤ ROW.size := by
    rw [hROW]
    simp [Builtin.zeroCells, Value.cells, hl]
    omega
  have hRc : ∀ j, j < k * 3 → ROW[j]? = some (.int .i64 (zs.getD j 0)) := fun j hj => by
    rw [hROW, Array.getElem?_append_left (by simp [hl]; omega), Array.getElem?_append_left (by simp [hl]; omega)]
    simp [hj, show j < zs.length by omega]
  clear hROW hold hik
  obtain ⟨W1, hW1⟩ : ∃ W1, W1 = w.drew.alloc (.cells ROW 43) := ⟨_, rfl⟩
  have hN : ∀ j, j < (n + 1) * 3 → (W1.cell? ⟨w.heap.size, j, none⟩).isSome = true := fun j hj => by
    rw [hW1, World.cell?_alloc_at (w := w.drew) ROW _ w.heap.size j rfl, Array.getElem?_eq_getElem (by omega)]; rfl
  have hN0 : ∀ j, j < k * 3 → W1.cell? ⟨w.heap.size, j, none⟩ = some (.int .i64 (zs.getD j 0)) := fun j hj => by
    rw [hW1, World.cell?_alloc_at (w := w.drew) ROW _ w.heap.size j rfl]; exact hRc j hj
  have hNf : ∀ j, W1.frozen? ⟨w.heap.size, j, none⟩ = false := fun j => by rw [hW1]; exact World.frozen?_alloc_at (w := w.drew) ROW _ w.heap.size j rfl
  have hOb : ∀ b j v, b < w.heap.size → w.cell? ⟨b, j, none⟩ = some v → W1.cell? ⟨b, j, none⟩ = some v := fun b j v hb h => by rw [hW1, World.cell?_alloc_past (w := w.drew) _ b j hb]; exact h
  have NW : New w W1 := by rw [hW1]; exact (show New w (w.drew.alloc _) by (repeat (first | exact New.refl _ | assumption | refine New.alloc ?_ _ | refine New.drew ?_ | refine New.drewN ?_ _ | refine New.setCell ?_ (by first | omega | (simp; omega) | (simp; done)) _ | refine New.trans ?_ (by assumption))))
  have hWs : W1.heap.size = w.heap.size + 1 := by rw [hW1]; show (w.alloc _).heap.size = _; simp
  obtain ⟨ds, hds⟩ : ∃ ds, zs.drop (k * 3) = ds := ⟨_, rfl⟩
  have hdl : ds.length = (n - k) * 3 := by rw [← hds, List.length_drop, hl]; omega
  have hdg : ∀ j, j < ds.length → ds.getD j 0 = zs.getD (k * 3 + j) 0 := fun j _ => by rw [← hds, List.getD_eq_getElem?_getD, List.getElem?_drop, List.getD_eq_getElem?_getD]
  have C1 := Cpd.of (W := W1) (g := w.heap.size) (o := k * 3) (cs := es) (fun j hj => hN _ (by omega))
  have hcpA : ∀ (W : World), (∀ x, W.cell? x = W1.cell? x) → (∀ x, W.frozen? x = W1.frozen? x) → ∀ ty dc, (Builtin.copy_ #[25, 25] ty #[.slice (some ⟨w.heap.size, k * 3, none⟩) (n + 1 - k) dc, .slice (some ⟨E, 0, none⟩) 1 1]).run Try.prog W = .ok (goInt (Nat.min 1 (n + 1 - k))) (W.setCells w.heap.size (k * 3) (es.map (Value.int .i64))) := fun W hWc hWf ty dc =>
    run_cpTask W ty w.heap.size (k * 3) (n + 1 - k) dc E 0 1 1 es (by rw [hes]; simp only [Nat.min_def]; split <;> omega) (fun j hj => by rw [hWc, Nat.zero_add]; exact hOb _ _ _ hEl (hec j (by omega))) (fun j hj => by rw [hWc]; exact hN _ (by omega)) (fun j _ => by rw [hWf]; exact hNf _)
  obtain ⟨W2, hW2⟩ : ∃ W2, W2 = W1.setCells w.heap.size (k * 3) (es.map (Value.int .i64)) := ⟨_, rfl⟩
  rw [← hW2] at C1
  have hx2 : ∀ j, j < (n + 1) * 3 → (W2.cell? ⟨w.heap.size, j, none⟩).isSome = true := fun j hj => by
    by_cases h1 : k * 3 ≤ j ∧ j < k * 3 + es.length
    · have := C1.cin (j - k * 3) (by omega)
      rw [show k * 3 + (j - k * 3) = j by omega] at this
      rw [this]; rfl
    · rw [C1.cout ⟨w.heap.size, j, none⟩ (fun _ _ => by show j < _ ∨ _ ≤ j; omega)]; exact hN j hj
  have C2 := Cpd.of (W := W2) (g := w.heap.size) (o := (k + 1) * 3) (cs := ds) (fun j hj => hx2 _ (by omega))
  have hcpB : ∀ (W : World), (∀ x, W.cell? x = W2.cell? x) → (∀ x, W.frozen? x = W2.frozen? x) → ∀ ty dc sc, (Builtin.copy_ #[25, 25] ty #[.slice (some ⟨w.heap.size, (k + 1) * 3, none⟩) (n - k) dc, .slice (some ⟨g, k * 3, none⟩) (n - k) sc]).run Try.prog W = .ok (goInt (Nat.min (n - k) (n - k))) (W.setCells w.heap.size ((k + 1) * 3) (ds.map (Value.int .i64))) := fun W hWc hWf ty dc sc =>
    run_cpTask W ty w.heap.size ((k + 1) * 3) (n - k) dc g (k * 3) (n - k) sc ds (by rw [hdl]; simp only [Nat.min_def]; split <;> omega) (fun j hj => by rw [hWc, C1.cout ⟨g, k * 3 + j, none⟩ (fun h _ => absurd h (by show g ≠ w.heap.size; omega)), hdg j hj]; exact hOb _ _ _ hlt (hcell _ (by omega))) (fun j hj => by rw [hWc]; exact hx2 _ (by omega)) (fun j _ => by rw [hWf, C1.fz]; exact hNf _)
  obtain ⟨W3, hW3⟩ : ∃ W3, W3 = W2.setCells w.heap.size ((k + 1) * 3) (ds.map (Value.int .i64)) := ⟨_, rfl⟩
  rw [← hW3] at C2
  have R3 : Row W3 w.heap.size (insTask zs k es) := by
    have z3 : W1.heap.size ≤ W3.heap.size := Nat.le_trans C1.gr.size C2.gr.size
    refine ⟨by omega, fun j hj => ?_, fun j _ => by rw [C2.fz, C1.fz]; exact hNf _⟩
    rw [insTask_len hl hes (by omega)] at hj
    rw [insTask_get hl hes (by omega)]
    by_cases h1 : j < k * 3
    · rw [if_pos h1, C2.cout ⟨w.heap.size, j, none⟩ (fun _ _ => .inl (by show j < _; omega)), C1.cout ⟨w.heap.size, j, none⟩ (fun _ _ => .inl h1)]
      exact hN0 j h1
    · rw [if_neg h1]
      by_cases h2 : j < (k + 1) * 3
      · rw [if_pos h2, C2.cout ⟨w.heap.size, j, none⟩ (fun _ _ => .inl h2)]
        have := C1.cin (j - k * 3) (by omega)
        rwa [show k * 3 + (j - k * 3) = j by omega] at this
      · rw [if_neg h2]
        have := C2.cin (j - (k + 1) * 3) (by omega)
        rw [show (k + 1) * 3 + (j - (k + 1) * 3) = j by omega, hdg _ (by omega), show k * 3 + (j - (k + 1) * 3) = j - 3 by omega] at this
        exact this
  have N3 : New w W3 := by
    have a := new_only (w0 := W1) NW (Nat.le_refl w.heap.size) C1.gr
    exact new_only a (Nat.le_refl w.heap.size) C2.gr
  have HFIN := Lib.hid (And.intro R3 N3)
  have hE1 : ∀ x, ((w.alloc (.cells ROW 43)).drew).cell? x = W1.cell? x := fun x => by rw [hW1]; rfl
  have hE2 : ∀ x, ((w.alloc (.cells ROW 43)).drew).frozen? x = W1.frozen? x := fun x => by rw [hW1]; rfl
  have hF1 : ∀ x, (((w.alloc (.cells ROW 43)).drew.setCells w.heap.size (k * 3) (es.map (Value.int .i64))).drew).cell? x = W2.cell? x := fun x => by rw [hW2, hW1]; rfl
  have hF2 : ∀ x, (((w.alloc (.cells ROW 43)).drew.setCells w.heap.size (k * 3) (es.map (Value.int .i64))).drew).frozen? x = W2.frozen? x := fun x => by rw [hW2, hW1]; rfl
  have FINW : Hid (∀ W, W = (((w.alloc (.cells ROW 43)).drew.setCells w.heap.size (k * 3) (es.map (Value.int .i64))).drew).setCells w.heap.size ((k + 1) * 3) (ds.map (Value.int .i64)) → Row W w.heap.size (insTask zs k es) ∧ New w W) := Lib.hid (fun W hW => by
    have e1 : W = W3.drew := by rw [hW, hW3, hW2, hW1]; simp only [drew_setCells]; rfl
    rw [e1]
    exact ⟨R3.new (New.refl W3).drew, N3.drew⟩)
  have hz2 : ((k : Int) == (n : Int)) = false := by simp; omega
  have hz3 : (k == n) = false := by simp; omega
  have hr : (c : Int) < (n : Int) + 1 := by omega
  have k0 : (0 : Int) ≤ (k : Int) := by omega
  have k1 : (k : Int) < (n : Int) := by omega
  have kc : (k : Int) ≤ (c : Int) := by omega
  have n1 : (n : Int) ≤ 1000 := by omega
  have hw1 : IntKind.i64.wrap ((k : Int) + 1) = (k : Int) + 1 := IntWalk.i64_in _ (by omega)
  have htn : ((k : Int) + 1).toNat = k + 1 := by omega
  have hb1 : (0 : Int) ≤ (k : Int) + 1 := by omega
  have hb5 : k ≤ n := by omega
  have hGi : ¬ (G = k) := by omega
  have hGim : ¬ (G = k + 1) := by omega
  have hci : ¬ (c = k) := by omega
  have gm : (G : Int) ≤ 9223372036854775807 := by omega
  have cm : (c : Int) ≤ 1001 := by omega
  have hkn : (k : Int) ≤ (n : Int) + 1 := by omega
  clear hG hm hkk hl hs ht hh hcell hec hN hN0 hNf hOb NW hWs hdl hdg hx2 C1 C2 R3 N3 hRl hRc hE hes hds hi0 hz0 hzs hzb
  go_enter Try.func52, Try.ntmps52
  go_wp2_with (first
    | (at_builtin; refine Lib.wpList_append_run _ rfl _ _ _ _ rfl _ _ rfl rfl _ _ (hrz _) ?_)
    | (at_builtin; refine wpList_copy_runI _ rfl _ _ 25 25 rfl _ _ rfl rfl (hcpA _ hE1 hE2 _ _) ?_))
  go_region_law (refine step_copy_runI rfl _ _ 25 25 rfl _ _ (by simp [Act.eval, Act.put]) (by simp [Act.eval, Act.put]) (hcpB _ hF1 hF2 _ _ _) ?_)
  go_wp2
  go_ret
  obtain ⟨a, b⟩ := FINW.out _ rfl
  exact ⟨w.heap.size, G, rfl, hlo, hGn, a, b.grown _⟩
set_option maxRecDepth 100000 in
set_option maxHeartbeats 4000000 in
theorem InsertTask_end (lo g n c E : Nat) (zs es : List Int) (hn : n ≤ 1000) (w : World) (hlo : lo ≤ w.heap.size) (ho : OwnTask lo w (.slice (some ⟨g, 0, none⟩) n c) n zs)
    (hS : Sts 3 w (some ⟨E, 0, none⟩) 1 es) (hc : n ≤ c) (hcm : c ≤ 9223372036854775807) :
    Calls Try.prog 52 #[.slice (some ⟨g, 0, none⟩) n c, .int .i64 (n : Int), .slice (some ⟨E, 0, none⟩) 1 1] w (InsTaskP lo g (n + 1) (zs ++ es) w) := by
  have HO := Lib.hid ho
  have HS := Lib.hid hS
  have n0 : (0 : Int) ≤ (n : Int) := by omega
  have nc : (n : Int) ≤ (c : Int) := by omega
  have cm : (c : Int) ≤ 9223372036854775807 := by omega
  have n1 : (n : Int) ≤ 1000 := by omega
  clear ho hS
  rcases Nat.eq_or_lt_of_le hc with hcn | hcn
  · subst hcn
    go_enter Try.func52, Try.ntmps52
    go_wp2_with (at_builtin; refine wp_appTaskN rfl _ _ rfl lo _ n zs rfl (HO.out.new (by (repeat (first | exact New.refl _ | assumption | refine New.alloc ?_ _ | refine New.drew ?_ | refine New.drewN ?_ _ | refine New.setCell ?_ (by first | omega | (simp; omega) | (simp; done)) _ | refine New.trans ?_ (by assumption))))) (some ⟨E, 0, none⟩) 1 1 es rfl (HS.out.new (by (repeat (first | exact New.refl _ | assumption | refine New.alloc ?_ _ | refine New.drew ?_ | refine New.drewN ?_ _ | refine New.setCell ?_ (by first | omega | (simp; omega) | (simp; done)) _ | refine New.trans ?_ (by assumption))))) (by omega) (by simpa using hlo) ?_; intro v2 w2 O2 G2; (obtain ⟨g2, c2, rfl, hg2, R2, hc2, _⟩ := O2.form.resolve_left (fun h => absurd h.2.1 (by omega))); (have R2 := Lib.hid R2); (have G2 := Lib.hid G2); clear O2)
    go_ret
    exact ⟨g2, c2, rfl, hg2, hc2, R2.out.new (by (repeat (first | exact New.refl _ | assumption | refine New.alloc ?_ _ | refine New.drew ?_ | refine New.drewN ?_ _ | refine New.setCell ?_ (by first | omega | (simp; omega) | (simp; done)) _ | refine New.trans ?_ (by assumption)))), ⟨G2.out.os, G2.out.tape, G2.out.output, G2.out.size, G2.out.block⟩⟩
  · have hci : ¬ (c = n) := by omega
    go_enter Try.func52, Try.ntmps52
    go_wp2_with (at_builtin; refine wp_appTaskN rfl _ _ rfl lo _ n zs rfl (HO.out.new (by (repeat (first | exact New.refl _ | assumption | refine New.alloc ?_ _ | refine New.drew ?_ | refine New.drewN ?_ _ | refine New.setCell ?_ (by first | omega | (simp; omega) | (simp; done)) _ | refine New.trans ?_ (by assumption))))) (some ⟨E, 0, none⟩) 1 1 es rfl (HS.out.new (by (repeat (first | exact New.refl _ | assumption | refine New.alloc ?_ _ | refine New.drew ?_ | refine New.drewN ?_ _ | refine New.setCell ?_ (by first | omega | (simp; omega) | (simp; done)) _ | refine New.trans ?_ (by assumption))))) (by omega) (by simpa using hlo) ?_; intro v2 w2 O2 G2; (obtain ⟨g2, c2, rfl, hg2, R2, hc2, _⟩ := O2.form.resolve_left (fun h => absurd h.2.1 (by omega))); (have R2 := Lib.hid R2); (have G2 := Lib.hid G2); clear O2)
    go_ret
    exact ⟨g2, c2, rfl, hg2, hc2, R2.out.new (by (repeat (first | exact New.refl _ | assumption | refine New.alloc ?_ _ | refine New.drew ?_ | refine New.drewN ?_ _ | refine New.setCell ?_ (by first | omega | (simp; omega) | (simp; done)) _ | refine New.trans ?_ (by assumption)))), ⟨G2.out.os, G2.out.tape, G2.out.output, G2.out.size, G2.out.block⟩⟩
section
variable {lo g n c : Nat} {w : World} {zs : List Int}
theorem OwnTask.set (h : OwnTask lo w (.slice (some ⟨g, 0, none⟩) n c) n zs) (j : Nat) (p : Int) : OwnTask lo (w.setCell ⟨g, j, none⟩ (.int .i64 p)) (.slice (some ⟨g, 0, none⟩) n c) n (zs.set j p) :=
  ⟨by have := (World.ownsRow.stored h.1 j (.int .i64 p)).1; rwa [← List.map_set] at this, by rw [List.length_set]; exact h.2⟩
theorem OwnTask.row (h : OwnTask lo w (.slice (some ⟨g, 0, none⟩) n c) n zs) : Row w g zs ∧ lo ≤ g ∧ n ≤ c := by
  rcases h.form with ⟨hv, _⟩ | ⟨g', c', hv, hg, hR, hc, _⟩
  · cases hv
  · injection hv with e1 e2 e3
    injection e1 with e1
    injection e1 with e1
    subst e1 e3
    exact ⟨hR, hg, hc⟩
theorem OwnTask.lim (h : OwnTask lo w (.slice (some ⟨g, 0, none⟩) n c) n zs) : c ≤ 9223372036854775807 := by
  rcases h.1.2 with ⟨hv, _⟩ | ⟨g', cap, cur, hv, hg, hh, hc, hm, hs, ht⟩
  · cases hv
  · injection hv with e1 e2 e3
    subst e3
    unfold maxLen at hm
    exact hm
end
/-- slices.Insert of one struct, at any place. -/
theorem InsertTask_any (lo g n c k E : Nat) (zs es : List Int) (hk : k ≤ n) (hn : n ≤ 1000) (w : World) (hlo : lo ≤ w.heap.size) (ho : OwnTask lo w (.slice (some ⟨g, 0, none⟩) n c) n zs)
    (hE : w.heap[E]? = some (.cells (es.map (Value.int .i64)).toArray 43 (0, 0))) (hes : es.length = 3) (hne : E ≠ g) :
    Calls Try.prog 52 #[.slice (some ⟨g, 0, none⟩) n c, .int .i64 (k : Int), .slice (some ⟨E, 0, none⟩) 1 1] w (InsTaskP lo g (n + 1) (insTask zs k es) w) := by
  rcases Nat.lt_or_ge k n with h1 | h1
  · rcases Nat.lt_or_ge c (n + 1) with h2 | h2
    · exact InsertTask_grow lo g n c k E zs es h1 hn h2 w hlo ho hE hes hne
    · exact InsertTask_room lo g n c k E zs es h1 hn h2 w ho hE hes hne
  · obtain rfl : k = n := by omega
    have hl := ho.2
    have e : insTask zs k es = zs ++ es := by
      unfold insTask
      rw [List.take_of_length_le (by omega), List.drop_of_length_le (by omega), List.append_nil]
    rw [e]
    refine InsertTask_end lo g k c E zs es hn w hlo ho ⟨by omega, fun _ => ⟨E, 0, rfl, ?_, fun i hi => ?_⟩⟩ ho.row.2.2 ho.lim
    · rcases Nat.lt_or_ge E w.heap.size with h3 | h3
      · exact h3
      · rw [Array.getElem?_eq_none h3] at hE; cases hE
    · rw [cell_of_row w E (0 + i) _ 43 (0, 0) hE]
      simp [show i < es.length by omega]
end Go.Proofs.Ytecnhjofgkhlnaa
