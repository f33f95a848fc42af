/- Parts that belong together: FlexA, FlexB. Conditions: as each part says. -/
import Derived.Test.YtobnjagmakhgpaaZN
import Derived.Test.YtobnjagmakhgpaaZC
/- Lists of Flex that grow by append: what owning such a list means, and what each append leaves. Conditions: the list is short. -/
namespace Go.Proofs.Ytobnjagmakhgpaa
open Go.RowKit

/-- The slice value v owns n structs with the numbers zs, in a block from lo on. -/
def OwnFlex (lo : Nat) (w : World) (v : Value) (n : Nat) (zs : List Int) : Prop := w.ownsRow lo 37 5 v n (zs.map (Value.int .i64)) ∧ zs.length = n * 5
section
variable {lo n : Nat} {w w' w0 : World} {v : Value} {zs : List Int}
theorem OwnFlex.form (h : OwnFlex lo w v n zs) : (v = .slice none 0 0 ∧ n = 0 ∧ zs = []) ∨ ∃ g c, v = .slice (some ⟨g, 0, none⟩) n c ∧ lo ≤ g ∧ Row w g zs ∧ n ≤ c ∧ v.ownBlock = some g := by
  obtain ⟨h, hl⟩ := h
  rcases h.2 with ⟨hv, hn⟩ | ⟨g, cap, cur, hv, hg, hh, hc, hm, hs, ht⟩
  · exact .inl ⟨hv, hn, List.eq_nil_of_length_eq_zero (by omega)⟩
  · refine .inr ⟨g, cap, hv, hg, ?_, hc, by rw [hv]; rfl⟩
    have hlt : g < w.heap.size := by
      rcases Nat.lt_or_ge g w.heap.size with h1 | h1
      · exact h1
      · rw [Array.getElem?_eq_none h1] at hh; cases hh
    refine ⟨hlt, fun i hi => ?_, fun i _ => by simp [World.frozen?, hh]⟩
    rw [cell_of_row w g i cur 37 (0, 0) hh]
    have e : cur[i]? = (cur.toList.take (n * 5))[i]? := by
      rw [List.getElem?_take_of_lt (by omega)]
      simp
    rw [e, ht]
    simp [hi]
theorem OwnFlex.res (h : OwnFlex lo w v n zs) : ∃ A c, v = .slice A n c ∧ n ≤ c ∧ Res lo w.heap.size w A zs := by
  rcases h.form with ⟨rfl, rfl, rfl⟩ | ⟨g, c, rfl, hg, hR, hc, _⟩
  · exact ⟨none, 0, rfl, Nat.le_refl _, Res.nil _ _ _⟩
  · exact ⟨_, c, rfl, hc, Res.of_row hR hg⟩
theorem OwnFlex.below (h : OwnFlex lo w v n zs) {g : Nat} (hg : v.ownBlock = some g) : lo ≤ g := by
  rcases h.form with ⟨rfl, _, _⟩ | ⟨g', c, rfl, hg', _, _, e⟩
  · simp [Value.ownBlock] at hg
  · rw [e] at hg; have := Option.some.inj hg; omega
theorem OwnFlex.kept (h : OwnFlex lo w v n zs) {r : Option Nat} (k : w.grownBy w' r) (hr : ∀ g, r = some g → g < lo) : OwnFlex lo w' v n zs := by
  refine ⟨⟨h.1.1, ?_⟩, h.2⟩
  rcases h.1.2 with hn | ⟨g, cap, cur, hv, hg, hh, hc, hm, hs, ht⟩
  · exact .inl hn
  · have hlt : g < w.heap.size := by
      rcases Nat.lt_or_ge g w.heap.size with h1 | h1
      · exact h1
      · rw [Array.getElem?_eq_none h1] at hh; cases hh
    exact .inr ⟨g, cap, cur, hv, hg, (k.block g hlt (fun e => by have := hr g e.symm; omega)).trans hh, hc, hm, hs, ht⟩
theorem OwnFlex.new (h : OwnFlex lo w v n zs) (k : New w w') : OwnFlex lo w' v n zs := h.kept (k.grown none) (fun _ e => by cases e)
theorem OwnFlex.alloc (h : OwnFlex lo w v n zs) (o : Obj) : OwnFlex lo (w.alloc o) v n zs := h.new ((New.refl _).alloc o)
theorem OwnFlex.empty (w : World) (hl : lo ≤ w.heap.size) : OwnFlex lo (w.alloc (.cells #[] 37)) (.slice (some ⟨w.heap.size, 0, none⟩) 0 0) 0 [] :=
  ⟨⟨rfl, .inr ⟨w.heap.size, 0, #[], rfl, hl, heap_alloc_new w _, Nat.le_refl _, Nat.zero_le _, rfl, rfl⟩⟩, rfl⟩
theorem new_ownFlex (h : New w0 w) (k : w.grownBy w' v.ownBlock) (ho : OwnFlex lo w v n zs) (hl : w0.heap.size ≤ lo) : New w0 w' :=
  ⟨k.os.trans h.os, k.tape.trans h.tape, k.output.trans h.output, Nat.le_trans h.size k.size, fun i hi => (k.block i (Nat.lt_of_lt_of_le hi h.size) (fun e => by have := ho.below e.symm; omega)).trans (h.block i hi)⟩
theorem only_ownFlex {a : Nat} (h : w0.grownBy w (some a)) (k : w.grownBy w' v.ownBlock) (ho : OwnFlex lo w v n zs) (hl : w0.heap.size ≤ lo) : w0.grownBy w' (some a) :=
  ⟨k.os.trans h.os, k.tape.trans h.tape, k.output.trans h.output, Nat.le_trans h.size k.size, fun i hi hne => (k.block i (Nat.lt_of_lt_of_le hi h.size) (fun e => by have := ho.below e.symm; omega)).trans (h.block i hi hne)⟩
theorem Rdr.ownFlex {a : Nat} {A : Option Addr} {m p : Nat} (h : Rdr w a A m p) (k : w.grownBy w' v.ownBlock) (ho : OwnFlex lo w v n zs) (hl : a < lo) : Rdr w' a A m p :=
  h.grown k (fun _ e => by have := ho.below e; omega)
end
theorem info_Flex : (Try.prog.info? 37).map (fun i => (i.zero, i.size, i.bytes)) = some (some (.agg #[Value.int .i64 0, Value.int .i64 0, Value.int .i64 0, Value.int .i64 0, Value.int .i64 0]), 5, 40) := by kernel_rfl
theorem wp_appFlex {w : World} {ops : Array Oper} {rest : List Oper} {o : Oper} {a : Act} {Q : Exit → Act → World → Prop} (hgd : o.guard = none) (s x : Operand)
    (ho : o.op = .call { callee := .builtin .append, args := #[s, x], argTypes := #[33, 33] }) (lo : Nat) (v : Value) (n : Nat) (zs : List Int) (hs : a.eval s = v) (hown : OwnFlex lo w v n zs)
    (g : Nat) (y0 y1 y2 y3 y4 : Int) (hx : a.eval x = .slice (some ⟨g, 0, none⟩) 1 1) (hr : Row w g [y0, y1, y2, y3, y4]) (hn : n ≤ 1000) (hlo : lo ≤ w.heap.size)
    (h : ∀ v' w', OwnFlex lo w' v' (n + 1) (zs ++ [y0, y1, y2, y3, y4]) → w.grownBy w' v.ownBlock → wpList Try.prog ops Q rest (a.put o.dst v') w') : wpList Try.prog ops Q (o :: rest) a w :=
  wpList_plain hgd fun K hK => by
    obtain ⟨i0, hi, hz0, hz1, hz2⟩ := info_parts info_Flex
    obtain ⟨v', w', hrun, h2, h3, _, _⟩ := run_append_own_at (P := Try.prog) w lo 33 o.type 37 i0 (.agg #[Value.int .i64 0, Value.int .i64 0, Value.int .i64 0, Value.int .i64 0, Value.int .i64 0]) 5 40 Try.underlying33 hi hz0 hz1 hz2 rfl (by decide) v n (zs.map (Value.int .i64)) hown.1 ⟨g, 0, none⟩ 1 1 ([y0, y1, y2, y3, y4].map (Value.int .i64)) rfl (fun j u hu => by
      have hj : j < 5 := by
        rcases Nat.lt_or_ge j 5 with h1 | h1
        · exact h1
        · rw [List.getElem?_eq_none (by simpa using h1)] at hu; cases hu
      have hc := hr.c j (by simpa using hj)
      have e : u = .int .i64 ([y0, y1, y2, y3, y4].getD j 0) := by
        match j, hj with
        | 0, _ => simp at hu; exact hu.symm
        | 1, _ => simp at hu; exact hu.symm
        | 2, _ => simp at hu; exact hu.symm
        | 3, _ => simp at hu; exact hu.symm
        | 4, _ => simp at hu; exact hu.symm
        | j + 5, hj => omega
      rw [e, Go.WideShapes.add_plain, Nat.zero_add]
      exact hc) (fun u hu => by
      obtain ⟨z, _, rfl⟩ := List.mem_map.1 hu
      rfl) (by unfold maxLen; omega) (by omega) hlo
    unfold Oper.wp execOp
    simp only [ho, resolve, invoke, builtin, Sem.run_bind, Sem.run_pure, Result.andThen_ok, List.map_toArray, List.map_cons, List.map_nil, hs, hx, hrun]
    refine hK _ _ (h v' w' ⟨?_, by rw [List.length_append, hown.2]; simp; omega⟩ h3)
    rw [List.map_append]
    exact h2
theorem Row.oneFlex (w : World) (y0 y1 y2 y3 y4 : Int) (t : TypeId) : Row (w.alloc (.cells #[.int .i64 y0, .int .i64 y1, .int .i64 y2, .int .i64 y3, .int .i64 y4] t)) w.heap.size [y0, y1, y2, y3, y4] :=
  ⟨by simp, fun i hi => by
    have hi' : i < 5 := by simpa using hi
    match i, hi' with
    | 0, _ => simp [go_sem]
    | 1, _ => simp [go_sem]
    | 2, _ => simp [go_sem]
    | 3, _ => simp [go_sem]
    | 4, _ => simp [go_sem]
    | i + 5, h => omega, fun i hi => by simp [go_sem]⟩
end Go.Proofs.Ytobnjagmakhgpaa

/- Lists of Flex: several are appended at once; a list of numbers beside one of Flex. Conditions: the lists are short. -/
namespace Go.Proofs.Ytobnjagmakhgpaa
open Go.RowKit

theorem run_appFlex (w : World) (ty : TypeId) (lo : Nat) (v : Value) (n : Nat) (zs : List Int) (hown : OwnFlex lo w v n zs) (A : Option Addr) (k c : Nat) (xs : List Int) (hx : Sts 5 w A k xs) (hn : n + k ≤ 1000000) (hlo : lo ≤ w.heap.size) :
    ∃ v' w', (Builtin.append_ #[33, 33] ty #[v, .slice A k c]).run Try.prog w = .ok v' w' ∧ OwnFlex lo w' v' (n + k) (zs ++ xs) ∧ w.grownBy w' v.ownBlock ∧ (v'.ownBlock = v.ownBlock ∨ v'.ownBlock = some w.heap.size) := by
  obtain ⟨i0, hi, hz0, hz1, hz2⟩ := info_parts info_Flex
  have hl := hx.len
  rcases A with _ | ad
  · have h0 : k = 0 := by
      rcases Nat.eq_zero_or_pos k with h | h
      · exact h
      · obtain ⟨b, off, e, _⟩ := hx.at_ h
        cases e
    subst h0
    obtain rfl : xs = [] := List.eq_nil_of_length_eq_zero (by omega)
    refine ⟨v, w, ?_, by simpa using hown, World.grownBy.refl w _, .inl rfl⟩
    rcases hown.1.2 with ⟨rfl, _⟩ | ⟨g, cap, cur, rfl, _, _, hnc, _⟩
    · simp [Builtin.append_, run_underlying Try.underlying33, sizeOf, typeInfo, hi, Builtin.lenOf, Builtin.firstCells]
    · simp [Builtin.append_, run_underlying Try.underlying33, sizeOf, typeInfo, hi, Builtin.lenOf, Builtin.firstCells, hnc, storeCells]
  · have each : ∀ j, j < xs.length → w.cell? (ad.add j) = some (.int .i64 (xs.getD j 0)) := fun j hj => by
      obtain ⟨b, off, e, hb, hc⟩ := hx.at_ (by omega)
      obtain rfl := Option.some.inj e
      rw [Go.WideShapes.add_plain]
      exact hc j (by omega)
    obtain ⟨v', w', hr, h2, h3, _, h5⟩ := run_append_own_at (P := Try.prog) w lo 33 ty 37 i0 (.agg #[Value.int .i64 0, Value.int .i64 0, Value.int .i64 0, Value.int .i64 0, Value.int .i64 0]) 5 40 Try.underlying33 hi hz0 hz1 hz2 rfl (by decide) v n (zs.map (Value.int .i64)) hown.1 ad k c (xs.map (Value.int .i64)) (by simpa using hl) (fun j u hu => by
      have hj : j < xs.length := by
        rcases Nat.lt_or_ge j xs.length with h1 | h1
        · exact h1
        · rw [List.getElem?_eq_none (by simpa using h1)] at hu; cases hu
      have e : u = .int .i64 (xs.getD j 0) := by
        simp [hj] at hu ⊢
        exact hu.symm
      rw [e]
      exact each j hj) (fun u hu => by
      obtain ⟨z, _, rfl⟩ := List.mem_map.1 hu
      rfl) (by unfold maxLen; omega) (by omega) hlo
    refine ⟨v', w', hr, ⟨?_, by rw [List.length_append, hown.2, hl, Nat.add_mul]⟩, h3, h5⟩
    rw [List.map_append]
    exact h2
theorem wp_appFlexN {w : World} {ops : Array Oper} {rest : List Oper} {o : Oper} {a : Act} {Q : Exit → Act → World → Prop} (hgd : o.guard = none) (s x : Operand)
    (ho : o.op = .call { callee := .builtin .append, args := #[s, x], argTypes := #[33, 33] }) (lo : Nat) (v : Value) (n : Nat) (zs : List Int) (hs : a.eval s = v) (hown : OwnFlex lo w v n zs)
    (A : Option Addr) (k c : Nat) (xs : List Int) (hx : a.eval x = .slice A k c) (hr : Sts 5 w A k xs) (hn : n + k ≤ 1000000) (hlo : lo ≤ w.heap.size)
    (h : ∀ v' w', OwnFlex lo w' v' (n + k) (zs ++ xs) → w.grownBy w' v.ownBlock → wpList Try.prog ops Q rest (a.put o.dst v') w') : wpList Try.prog ops Q (o :: rest) a w :=
  wpList_plain hgd fun K hK => by
    obtain ⟨v', w', hrun, h2, h3, _⟩ := run_appFlex w o.type lo v n zs hown A k c xs hr hn hlo
    unfold Oper.wp execOp
    simp only [ho, resolve, invoke, builtin, Sem.run_bind, Sem.run_pure, Result.andThen_ok, List.map_toArray, List.map_cons, List.map_nil, hs, hx, hrun]
    exact hK _ _ (h v' w' h2 h3)
section
variable {lo lo' n : Nat} {w w' : World} {v u : Value} {zs ys : List Int}
/-- A list of numbers stays where one of Flex grows, and the other way round: their blocks are of different types. -/
theorem Own.keptFlex (h : Own lo w v zs) (o : OwnFlex lo' w u n ys) (k : w.grownBy w' u.ownBlock) : Own lo w' v zs := by
  refine ⟨h.1, ?_⟩
  rcases h.2 with hn | ⟨g, cap, cur, hv, hg, hh, hc, hm, hs, ht⟩
  · exact .inl hn
  · have hlt : g < w.heap.size := by
      rcases Nat.lt_or_ge g w.heap.size with h1 | h1
      · exact h1
      · rw [Array.getElem?_eq_none h1] at hh; cases hh
    exact .inr ⟨g, cap, cur, hv, hg, (k.block g hlt (fun e => by
      rcases o.1.2 with ⟨e', _⟩ | ⟨g', cap', cur', hv', _, hh', _⟩
      · rw [e'] at e; simp [Value.ownBlock] at e
      · rw [hv'] at e; simp [Value.ownBlock] at e; subst e; rw [hh] at hh'; simp at hh')).trans hh, hc, hm, hs, ht⟩
theorem OwnFlex.keptOwn (h : OwnFlex lo w v n ys) (o : Own lo' w u zs) (k : w.grownBy w' u.ownBlock) : OwnFlex lo w' v n ys := by
  refine ⟨⟨h.1.1, ?_⟩, h.2⟩
  rcases h.1.2 with hn | ⟨g, cap, cur, hv, hg, hh, hc, hm, hs, ht⟩
  · exact .inl hn
  · have hlt : g < w.heap.size := by
      rcases Nat.lt_or_ge g w.heap.size with h1 | h1
      · exact h1
      · rw [Array.getElem?_eq_none h1] at hh; cases hh
    exact .inr ⟨g, cap, cur, hv, hg, (k.block g hlt (fun e => by
      rcases o.2 with ⟨e', _⟩ | ⟨g', cap', cur', hv', _, hh', _⟩
      · rw [e'] at e; simp [Value.ownBlock] at e
      · rw [hv'] at e; simp [Value.ownBlock] at e; subst e; rw [hh] at hh'; simp at hh')).trans hh, hc, hm, hs, ht⟩
end
end Go.Proofs.Ytobnjagmakhgpaa
