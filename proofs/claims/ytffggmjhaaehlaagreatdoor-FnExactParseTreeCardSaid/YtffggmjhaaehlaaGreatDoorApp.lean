/- Lists of numbers that grow by append: what owning such a list means, and what each append leaves. Conditions: the list is short. -/
import Derived.Test.YtffggmjhaaehlaaGreatDoorRes
import Derived.Test.YtffggmjhaaehlaaGreatDoorReader
import Derived.Maps.AppendAt
import Derived.OwnWalk
import Derived.ArgAppend
namespace Go.Proofs.YtffggmjhaaehlaaGreatDoor
open Go.RowKit

/-- The slice value v owns the numbers zs, in a block from lo on. -/
def Own (lo : Nat) (w : World) (v : Value) (zs : List Int) : Prop := w.ownsRow lo 3 1 v zs.length (zs.map (Value.int .i64))
section
variable {lo : Nat} {w w' w0 : World} {v : Value} {zs : List Int}
theorem Own.form (h : Own lo w v zs) : (v = .slice none 0 0 ∧ zs = []) ∨ ∃ g c, v = .slice (some ⟨g, 0, none⟩) zs.length c ∧ lo ≤ g ∧ Row w g zs ∧ zs.length ≤ c ∧ v.ownBlock = some g := by
  rcases h.2 with ⟨hv, hn⟩ | ⟨g, cap, cur, hv, hg, hh, hc, hm, hs, ht⟩
  · exact .inl ⟨hv, List.eq_nil_of_length_eq_zero hn⟩
  · refine .inr ⟨g, cap, hv, hg, ?_, hc, by rw [hv]; rfl⟩
    have hlt : g < w.heap.size := by
      rcases Nat.lt_or_ge g w.heap.size with h1 | h1
      · exact h1
      · rw [Array.getElem?_eq_none h1] at hh; cases hh
    have hcell : ∀ i, w.cell? ⟨g, i, none⟩ = cur[i]? := fun i => cell_of_row w g i cur 3 (0, 0) hh
    refine ⟨hlt, fun i hi => ?_, fun i _ => by simp [World.frozen?, hh]⟩
    rw [hcell i]
    have e : cur[i]? = (cur.toList.take (zs.length * 1))[i]? := by
      rw [List.getElem?_take_of_lt (by omega)]
      simp
    rw [e, ht]
    simp [hi]
theorem Own.res (h : Own lo w v zs) : ∃ A c, v = .slice A zs.length c ∧ zs.length ≤ c ∧ Res lo w.heap.size w A zs := by
  rcases h.form with ⟨rfl, rfl⟩ | ⟨g, c, rfl, hg, hR, hc, _⟩
  · exact ⟨none, 0, rfl, Nat.le_refl _, Res.nil _ _ _⟩
  · exact ⟨_, c, rfl, hc, Res.of_row hR hg⟩
theorem Own.below (h : Own lo w v zs) {g : Nat} (hg : v.ownBlock = some g) : lo ≤ g := by
  rcases h.form with ⟨rfl, rfl⟩ | ⟨g', c, rfl, hg', _, _, e⟩
  · simp [Value.ownBlock] at hg
  · rw [e] at hg; have := Option.some.inj hg; omega
theorem Own.kept (h : Own lo w v zs) {r : Option Nat} (k : w.grownBy w' r) (hr : ∀ g, r = some g → g < lo) : Own lo w' v zs := by
  refine ⟨h.1, ?_⟩
  rcases h.2 with hn | ⟨g, cap, cur, hv, hg, hh, hc, hm, hs, ht⟩
  · exact .inl hn
  · have hlt : g < w.heap.size := by
      rcases Nat.lt_or_ge g w.heap.size with h1 | h1
      · exact h1
      · rw [Array.getElem?_eq_none h1] at hh; cases hh
    exact .inr ⟨g, cap, cur, hv, hg, (k.block g hlt (fun e => by have := hr g e.symm; omega)).trans hh, hc, hm, hs, ht⟩
theorem New.grown (h : New w w') (r : Option Nat) : w.grownBy w' r := ⟨h.os, h.tape, h.output, h.size, fun k hk _ => h.block k hk⟩
theorem Own.new (h : Own lo w v zs) (k : New w w') : Own lo w' v zs := h.kept (k.grown none) (fun _ e => by cases e)
theorem Own.alloc (h : Own lo w v zs) (o : Obj) : Own lo (w.alloc o) v zs := h.new ((New.refl _).alloc o)
theorem Own.drew (h : Own lo w v zs) : Own lo w.drew v zs := h
theorem Own.nil (lo : Nat) (w : World) : Own lo w (.slice none 0 0) [] := ⟨rfl, .inl ⟨rfl, rfl⟩⟩
theorem Own.empty (w : World) (c : Nat) (hl : lo ≤ w.heap.size) (hc : c = 0) : Own lo (w.alloc (.cells #[] 3)) (.slice (some ⟨w.heap.size, 0, none⟩) 0 c) [] := by
  subst hc
  exact ⟨rfl, .inr ⟨w.heap.size, 0, #[], rfl, hl, heap_alloc_new w _, Nat.le_refl _, Nat.zero_le _, rfl, rfl⟩⟩
/-- Where only an owned list of later blocks turned, elder things are as they were. -/
theorem new_own (h : New w0 w) (k : w.grownBy w' v.ownBlock) (ho : Own lo w v zs) (hl : w0.heap.size ≤ lo) : New w0 w' :=
  ⟨k.os.trans h.os, k.tape.trans h.tape, k.output.trans h.output, Nat.le_trans h.size k.size, fun i hi => (k.block i (Nat.lt_of_lt_of_le hi h.size) (fun e => by have := ho.below e.symm; omega)).trans (h.block i hi)⟩
theorem only_own {a : Nat} (h : w0.grownBy w (some a)) (k : w.grownBy w' v.ownBlock) (ho : Own lo w v zs) (hl : w0.heap.size ≤ lo) : w0.grownBy w' (some a) :=
  ⟨k.os.trans h.os, k.tape.trans h.tape, k.output.trans h.output, Nat.le_trans h.size k.size, fun i hi hne => (k.block i (Nat.lt_of_lt_of_le hi h.size) (fun e => by have := ho.below e.symm; omega)).trans (h.block i hi hne)⟩
theorem Rdr.grown {a : Nat} {A : Option Addr} {m p : Nat} (h : Rdr w a A m p) {r : Option Nat} (k : w.grownBy w' r) (hr : ∀ g, r = some g → a < g) : Rdr w' a A m p := by
  have hlt : a < w.heap.size := World.block_lt_of_cell? w ⟨a, 1, none⟩ h.pos
  obtain ⟨⟨c, h1⟩, h2, h3, h4⟩ := h
  have kb : ∀ b, b ≤ a → w'.heap[b]? = w.heap[b]? := fun b hb => k.block b (by omega) (fun e => by have := hr b e.symm; omega)
  have kc : ∀ b o, b ≤ a → w'.cell? ⟨b, o, none⟩ = w.cell? ⟨b, o, none⟩ := fun b o hb => World.cell?_of_block (kb b hb)
  refine ⟨⟨c, (kc _ _ (Nat.le_refl _)).trans h1⟩, (kc _ _ (Nat.le_refl _)).trans h2, (World.frozen?_of_block (w := w) (kb a (Nat.le_refl _))).trans h3, fun i hi => ?_⟩
  obtain ⟨b0, off, u, e1, e2, e3, e4⟩ := h4 i hi
  exact ⟨b0, off, u, e1, e2, e3, (kc _ _ (by omega)).trans e4⟩
theorem Rdr.own {a : Nat} {A : Option Addr} {m p : Nat} (h : Rdr w a A m p) (k : w.grownBy w' v.ownBlock) (ho : Own lo w v zs) (hl : a < lo) : Rdr w' a A m p :=
  h.grown k (fun _ e => by have := ho.below e; omega)
theorem Ints.own {A : Option Addr} {n B : Nat} {xs : List Int} (h : Ints w A n xs) (k : w.grownBy w' v.ownBlock) (ho : Own lo w v zs) (hB : ∀ b off, A = some ⟨b, off, none⟩ → b < B) (hl : B ≤ lo) : Ints w' A n xs :=
  ⟨h.len, fun hn => by
    obtain ⟨b, off, e, hb, hc⟩ := h.at_ hn
    refine ⟨b, off, e, Nat.lt_of_lt_of_le hb k.size, fun i hi => (World.cell?_of_block (k.block b hb (fun e' => ?_))).trans (hc i hi)⟩
    have h1 := ho.below e'.symm
    have h2 := hB b off e
    omega⟩
end
theorem info_int : (Tryz.prog.info? 3).map (fun i => (i.zero, i.size, i.bytes)) = some (some (.int .i64 0), 1, 8) := by kernel_rfl
/-- Numbers are appended, wherever they lie. -/
theorem run_app (w : World) (ty : TypeId) (lo : Nat) (v : Value) (zs : List Int) (hown : Own lo w v zs) (A : Option Addr) (m c : Nat) (xs : List Int) (hx : Ints w A m xs) (hn : zs.length + m ≤ 2000000) (hlo : lo ≤ w.heap.size) :
    ∃ v' w', (Builtin.append_ #[36, 36] ty #[v, .slice A m c]).run Tryz.prog w = .ok v' w' ∧ Own lo w' v' (zs ++ xs) ∧ w.grownBy w' v.ownBlock := by
  obtain ⟨i0, hi, hz0, hz1, hz2⟩ := info_parts info_int
  have hl := hx.len
  rcases A with _ | ad
  · have h0 : m = 0 := by
      rcases Nat.eq_zero_or_pos m with h | h
      · exact h
      · obtain ⟨b, off, e, _⟩ := hx.at_ h
        cases e
    subst h0
    obtain rfl : xs = [] := List.eq_nil_of_length_eq_zero hl
    refine ⟨v, w, ?_, by simpa using hown, World.grownBy.refl w _⟩
    rcases hown.2 with ⟨rfl, _⟩ | ⟨g, cap, cur, rfl, _, _, hnc, _⟩
    · simp [Builtin.append_, run_underlying Tryz.underlying36, sizeOf, typeInfo, hi, Builtin.lenOf, Builtin.firstCells]
    · simp [Builtin.append_, run_underlying Tryz.underlying36, sizeOf, typeInfo, hi, Builtin.lenOf, Builtin.firstCells, hnc, storeCells]
  · have each : ∀ j, j < xs.length → w.cell? (ad.add j) = some (.int .i64 (xs.getD j 0)) := fun j hj => by
      obtain ⟨b, off, e, hb, hc⟩ := hx.at_ (by omega)
      obtain rfl := Option.some.inj e
      rw [Go.WideShapes.add_plain]
      exact hc j (by omega)
    obtain ⟨v', w', hr, h2, h3, _, _⟩ := run_append_own_at (P := Tryz.prog) w lo 36 ty 3 i0 (.int .i64 0) 1 8 Tryz.underlying36 hi hz0 hz1 hz2 rfl (by decide) v zs.length (zs.map (Value.int .i64)) hown ad m c (xs.map (Value.int .i64)) (by simp [hl]) (fun j u hu => by
      have hj : j < xs.length := by
        rcases Nat.lt_or_ge j xs.length with h1 | h1
        · exact h1
        · rw [List.getElem?_eq_none (by simpa using h1)] at hu; cases hu
      have e : u = .int .i64 (xs.getD j 0) := by
        simp [hj] at hu ⊢
        exact hu.symm
      rw [e]
      exact each j hj) (fun u hu => by
      obtain ⟨z, _, rfl⟩ := List.mem_map.1 hu
      rfl) (by unfold maxLen; omega) (by omega) hlo
    refine ⟨v', w', hr, ?_, h3⟩
    unfold Own
    rw [List.length_append, List.map_append, hl]
    exact h2
theorem wp_app {w : World} {ops : Array Oper} {rest : List Oper} {o : Oper} {a : Act} {Q : Exit → Act → World → Prop} (hgd : o.guard = none) (s x : Operand)
    (ho : o.op = .call { callee := .builtin .append, args := #[s, x], argTypes := #[36, 36] }) (lo : Nat) (v : Value) (zs : List Int) (hs : a.eval s = v) (hown : Own lo w v zs)
    (A : Option Addr) (m c : Nat) (xs : List Int) (hx : a.eval x = .slice A m c) (hr : Ints w A m xs) (hn : zs.length + m ≤ 2000000) (hlo : lo ≤ w.heap.size)
    (h : ∀ v' w', Own lo w' v' (zs ++ xs) → w.grownBy w' v.ownBlock → wpList Tryz.prog ops Q rest (a.put o.dst v') w') : wpList Tryz.prog ops Q (o :: rest) a w :=
  wpList_plain hgd fun K hK => by
    obtain ⟨v', w', hrun, h2, h3⟩ := run_app w o.type lo v zs hown A m c xs hr hn hlo
    unfold Oper.wp execOp
    simp only [ho, resolve, invoke, builtin, Sem.run_bind, Sem.run_pure, Result.andThen_ok, List.map_toArray, List.map_cons, List.map_nil, hs, hx, hrun]
    exact hK _ _ (h v' w' h2 h3)
/-- One number, just laid in a block of its own. -/
theorem Ints.one (w : World) (z : Int) (t : TypeId) : Ints (w.alloc (.cells #[.int .i64 z] t)) (some ⟨w.heap.size, 0, none⟩) 1 [z] :=
  ⟨rfl, fun _ => ⟨w.heap.size, 0, rfl, by simp, fun i hi => by
    obtain rfl : i = 0 := by omega
    simp [go_sem]⟩⟩
/-- As before, and where the list lies behind it. -/
theorem run_app2 (w : World) (ty : TypeId) (lo : Nat) (v : Value) (zs : List Int) (hown : Own lo w v zs) (g : Nat) (z : Int) (hx : Ints w (some ⟨g, 0, none⟩) 1 [z]) (hn : zs.length + 1 ≤ 1000000) (hlo : lo ≤ w.heap.size) :
    ∃ v' w', (Builtin.append_ #[36, 36] ty #[v, .slice (some ⟨g, 0, none⟩) 1 1]).run Tryz.prog w = .ok v' w' ∧ Own lo w' v' (zs ++ [z]) ∧ w.grownBy w' v.ownBlock ∧ (v'.ownBlock = v.ownBlock ∨ v'.ownBlock = some w.heap.size) := by
  obtain ⟨i0, hi, hz0, hz1, hz2⟩ := info_parts info_int
  obtain ⟨b, off, e, hb, hc⟩ := hx.at_ (by omega)
  have hc0 := hc 0 (by omega)
  simp only [Option.some.injEq, Addr.mk.injEq, and_true] at e
  obtain ⟨rfl, rfl⟩ := e
  obtain ⟨v', w', hr, h2, h3, _, h5⟩ := run_append_own_at (P := Tryz.prog) w lo 36 ty 3 i0 (.int .i64 0) 1 8 Tryz.underlying36 hi hz0 hz1 hz2 rfl (by decide) v zs.length (zs.map (Value.int .i64)) hown ⟨g, 0, none⟩ 1 1 [.int .i64 z] rfl (fun j u hu => by
    match j, hu with
    | 0, hu => simp at hu; subst hu; simpa [Addr.add] using hc0) (fun u hu => by simp at hu; subst hu; rfl) (by unfold maxLen; omega) (by omega) hlo
  refine ⟨v', w', hr, ?_, h3, h5⟩
  unfold Own
  rw [List.length_append, List.map_append]
  exact h2
theorem wp_app2 {w : World} {ops : Array Oper} {rest : List Oper} {o : Oper} {a : Act} {Q : Exit → Act → World → Prop} (hgd : o.guard = none) (s x : Operand)
    (ho : o.op = .call { callee := .builtin .append, args := #[s, x], argTypes := #[36, 36] }) (lo : Nat) (v : Value) (zs : List Int) (hs : a.eval s = v) (hown : Own lo w v zs)
    (g : Nat) (z : Int) (hx : a.eval x = .slice (some ⟨g, 0, none⟩) 1 1) (hr : Ints w (some ⟨g, 0, none⟩) 1 [z]) (hn : zs.length + 1 ≤ 1000000) (hlo : lo ≤ w.heap.size)
    (h : ∀ v' w', Own lo w' v' (zs ++ [z]) → w.grownBy w' v.ownBlock → (v'.ownBlock = v.ownBlock ∨ v'.ownBlock = some w.heap.size) → wpList Tryz.prog ops Q rest (a.put o.dst v') w') : wpList Tryz.prog ops Q (o :: rest) a w :=
  wpList_plain hgd fun K hK => by
    obtain ⟨v', w', hrun, h2, h3, h4⟩ := run_app2 w o.type lo v zs hown g z hr hn hlo
    unfold Oper.wp execOp
    simp only [ho, resolve, invoke, builtin, Sem.run_bind, Sem.run_pure, Result.andThen_ok, List.map_toArray, List.map_cons, List.map_nil, hs, hx, hrun]
    exact hK _ _ (h v' w' h2 h3 h4)
/-- A full row grows: the numbers go into a new block. -/
theorem wp_grow {w : World} {ops : Array Oper} {rest : List Oper} {o : Oper} {a : Act} {Q : Exit → Act → World → Prop} (hgd : o.guard = none) (s x : Operand)
    (ho : o.op = .call { callee := .builtin .append, args := #[s, x], argTypes := #[36, 36] }) (g0 n : Nat) (zs : List Int) (hs : a.eval s = .slice (some ⟨g0, 0, none⟩) n n) (hz : Ints w (some ⟨g0, 0, none⟩) n zs)
    (g : Nat) (z : Int) (hx : a.eval x = .slice (some ⟨g, 0, none⟩) 1 1) (hr : Ints w (some ⟨g, 0, none⟩) 1 [z]) (hn : n ≤ 100000)
    (h : ∀ v' w', Own w.heap.size w' v' (zs ++ [z]) → New w w' → wpList Tryz.prog ops Q rest (a.put o.dst v') w') : wpList Tryz.prog ops Q (o :: rest) a w := by
  obtain ⟨i0, hi, hz0, hz1, hz2⟩ := info_parts info_int
  obtain ⟨b, off, e, hb, hc⟩ := hr.at_ (by omega)
  have hc0 := hc 0 (by omega)
  simp only [Option.some.injEq, Addr.mk.injEq, and_true] at e
  obtain ⟨rfl, rfl⟩ := e
  refine wpList_append_grows (P := Tryz.prog) w hgd s x 36 ho 3 i0 (.int .i64 0) 1 8 Tryz.underlying36 hi hz0 hz1 hz2 rfl (by decide) (some ⟨g0, 0, none⟩) n n (zs.map (Value.int .i64)) hs (fun h => by cases h) (by simp [hz.len]) (fun b hb j u hu => by
    obtain rfl := Option.some.inj hb
    have hj : j < zs.length := by
      rcases Nat.lt_or_ge j zs.length with h1 | h1
      · exact h1
      · rw [List.getElem?_eq_none (by simpa using h1)] at hu; cases hu
    obtain ⟨b, off, e, _, hc⟩ := hz.at_ (by have := hz.len; omega)
    simp only [Option.some.injEq, Addr.mk.injEq, and_true] at e
    obtain ⟨rfl, rfl⟩ := e
    have e : u = .int .i64 (zs.getD j 0) := by
      simp [hj] at hu ⊢
      exact hu.symm
    rw [e, Go.WideShapes.add_plain]
    exact hc j (by have := hz.len; omega)) ⟨g, 0, none⟩ 1 1 [.int .i64 z] hx rfl (fun j u hu => by
    match j, hu with
    | 0, hu => simp at hu; subst hu; simpa [Addr.add] using hc0) (fun u hu => by simp at hu; subst hu; rfl) (by omega) (by unfold maxLen; omega) (by omega) ?_
  intro v' w' h1 h2
  refine h v' w' ?_ ⟨h2.os, h2.tape, h2.output, h2.size, fun k hk => h2.block k hk (by simp)⟩
  unfold Own
  rw [List.length_append, List.map_append, hz.len]
  exact h1
theorem Ints.keep {w w' : World} {A : Option Addr} {n : Nat} {xs : List Int} {r : Option Nat} (h : Ints w A n xs) (k : w.grownBy w' r) (hB : ∀ b off, A = some ⟨b, off, none⟩ → r ≠ some b) : Ints w' A n xs :=
  ⟨h.len, fun hn => by
    obtain ⟨b, off, e, hb, hc⟩ := h.at_ hn
    exact ⟨b, off, e, Nat.lt_of_lt_of_le hb k.size, fun i hi => (World.cell?_of_block (k.block b hb (fun e' => hB b off e e'.symm))).trans (hc i hi)⟩⟩
theorem Ints.cell_ {w : World} {b off n k : Nat} {xs : List Int} (h : Ints w (some ⟨b, off, none⟩) n xs) (hk : k < n) : w.cell? ⟨b, off + k, none⟩ = some (.int .i64 (xs.getD k 0)) := by
  obtain ⟨b', off', e, _, hc⟩ := h.at_ (by omega)
  simp only [Option.some.injEq, Addr.mk.injEq, and_true] at e
  obtain ⟨rfl, rfl⟩ := e
  exact hc k hk
end Go.Proofs.YtffggmjhaaehlaaGreatDoor
