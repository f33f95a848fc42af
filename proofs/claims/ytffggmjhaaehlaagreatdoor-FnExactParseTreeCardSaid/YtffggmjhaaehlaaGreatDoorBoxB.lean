/- Lists of Box: several are appended at once; a list of numbers beside one of Box. Conditions: the lists are short. -/
import Derived.Test.YtffggmjhaaehlaaGreatDoorBoxA
namespace Go.Proofs.YtffggmjhaaehlaaGreatDoor
open Go.RowKit

theorem run_appBox (w : World) (ty : TypeId) (lo : Nat) (v : Value) (n : Nat) (zs : List Int) (hown : OwnBox lo w v n zs) (A : Option Addr) (k c : Nat) (xs : List Int) (hx : Sts 9 w A k xs) (hn : n + k ≤ 1000000) (hlo : lo ≤ w.heap.size) :
    ∃ v' w', (Builtin.append_ #[22, 22] ty #[v, .slice A k c]).run Tryz.prog w = .ok v' w' ∧ OwnBox lo w' v' (n + k) (zs ++ xs) ∧ w.grownBy w' v.ownBlock ∧ (v'.ownBlock = v.ownBlock ∨ v'.ownBlock = some w.heap.size) := by
  obtain ⟨i0, hi, hz0, hz1, hz2⟩ := info_parts info_Box
  have hl := hx.len
  rcases A with _ | ad
  · have h0 : k = 0 := by
      rcases Nat.eq_zero_or_pos k with h | h
      · exact h
      · obtain ⟨b, off, e, _⟩ := hx.at_ h
        cases e
    subst h0
    obtain rfl : xs = [] := List.eq_nil_of_length_eq_zero (by omega)
    refine ⟨v, w, ?_, by simpa using hown, World.grownBy.refl w _, .inl rfl⟩
    rcases hown.1.2 with ⟨rfl, _⟩ | ⟨g, cap, cur, rfl, _, _, hnc, _⟩
    · simp [Builtin.append_, run_underlying Tryz.underlying22, sizeOf, typeInfo, hi, Builtin.lenOf, Builtin.firstCells]
    · simp [Builtin.append_, run_underlying Tryz.underlying22, sizeOf, typeInfo, hi, Builtin.lenOf, Builtin.firstCells, hnc, storeCells]
  · have each : ∀ j, j < xs.length → w.cell? (ad.add j) = some (.int .i64 (xs.getD j 0)) := fun j hj => by
      obtain ⟨b, off, e, hb, hc⟩ := hx.at_ (by omega)
      obtain rfl := Option.some.inj e
      rw [Go.WideShapes.add_plain]
      exact hc j (by omega)
    obtain ⟨v', w', hr, h2, h3, _, h5⟩ := run_append_own_at (P := Tryz.prog) w lo 22 ty 38 i0 (.agg #[Value.int .i64 0, Value.int .i64 0, Value.int .i64 0, Value.int .i64 0, Value.int .i64 0, Value.int .i64 0, Value.int .i64 0, Value.int .i64 0, Value.int .i64 0]) 9 72 Tryz.underlying22 hi hz0 hz1 hz2 rfl (by decide) v n (zs.map (Value.int .i64)) hown.1 ad k c (xs.map (Value.int .i64)) (by simpa using hl) (fun j u hu => by
      have hj : j < xs.length := by
        rcases Nat.lt_or_ge j xs.length with h1 | h1
        · exact h1
        · rw [List.getElem?_eq_none (by simpa using h1)] at hu; cases hu
      have e : u = .int .i64 (xs.getD j 0) := by
        simp [hj] at hu ⊢
        exact hu.symm
      rw [e]
      exact each j hj) (fun u hu => by
      obtain ⟨z, _, rfl⟩ := List.mem_map.1 hu
      rfl) (by unfold maxLen; omega) (by omega) hlo
    refine ⟨v', w', hr, ⟨?_, by rw [List.length_append, hown.2, hl, Nat.add_mul]⟩, h3, h5⟩
    rw [List.map_append]
    exact h2
theorem wp_appBoxN {w : World} {ops : Array Oper} {rest : List Oper} {o : Oper} {a : Act} {Q : Exit → Act → World → Prop} (hgd : o.guard = none) (s x : Operand)
    (ho : o.op = .call { callee := .builtin .append, args := #[s, x], argTypes := #[22, 22] }) (lo : Nat) (v : Value) (n : Nat) (zs : List Int) (hs : a.eval s = v) (hown : OwnBox lo w v n zs)
    (A : Option Addr) (k c : Nat) (xs : List Int) (hx : a.eval x = .slice A k c) (hr : Sts 9 w A k xs) (hn : n + k ≤ 1000000) (hlo : lo ≤ w.heap.size)
    (h : ∀ v' w', OwnBox lo w' v' (n + k) (zs ++ xs) → w.grownBy w' v.ownBlock → wpList Tryz.prog ops Q rest (a.put o.dst v') w') : wpList Tryz.prog ops Q (o :: rest) a w :=
  wpList_plain hgd fun K hK => by
    obtain ⟨v', w', hrun, h2, h3, _⟩ := run_appBox w o.type lo v n zs hown A k c xs hr hn hlo
    unfold Oper.wp execOp
    simp only [ho, resolve, invoke, builtin, Sem.run_bind, Sem.run_pure, Result.andThen_ok, List.map_toArray, List.map_cons, List.map_nil, hs, hx, hrun]
    exact hK _ _ (h v' w' h2 h3)
section
variable {lo lo' n : Nat} {w w' : World} {v u : Value} {zs ys : List Int}
/-- A list of numbers stays where one of Box grows, and the other way round: their blocks are of different types. -/
theorem Own.keptBox (h : Own lo w v zs) (o : OwnBox lo' w u n ys) (k : w.grownBy w' u.ownBlock) : Own lo w' v zs := by
  refine ⟨h.1, ?_⟩
  rcases h.2 with hn | ⟨g, cap, cur, hv, hg, hh, hc, hm, hs, ht⟩
  · exact .inl hn
  · have hlt : g < w.heap.size := by
      rcases Nat.lt_or_ge g w.heap.size with h1 | h1
      · exact h1
      · rw [Array.getElem?_eq_none h1] at hh; cases hh
    exact .inr ⟨g, cap, cur, hv, hg, (k.block g hlt (fun e => by
      rcases o.1.2 with ⟨e', _⟩ | ⟨g', cap', cur', hv', _, hh', _⟩
      · rw [e'] at e; simp [Value.ownBlock] at e
      · rw [hv'] at e; simp [Value.ownBlock] at e; subst e; rw [hh] at hh'; simp at hh')).trans hh, hc, hm, hs, ht⟩
theorem OwnBox.keptOwn (h : OwnBox lo w v n ys) (o : Own lo' w u zs) (k : w.grownBy w' u.ownBlock) : OwnBox lo w' v n ys := by
  refine ⟨⟨h.1.1, ?_⟩, h.2⟩
  rcases h.1.2 with hn | ⟨g, cap, cur, hv, hg, hh, hc, hm, hs, ht⟩
  · exact .inl hn
  · have hlt : g < w.heap.size := by
      rcases Nat.lt_or_ge g w.heap.size with h1 | h1
      · exact h1
      · rw [Array.getElem?_eq_none h1] at hh; cases hh
    exact .inr ⟨g, cap, cur, hv, hg, (k.block g hlt (fun e => by
      rcases o.2 with ⟨e', _⟩ | ⟨g', cap', cur', hv', _, hh', _⟩
      · rw [e'] at e; simp [Value.ownBlock] at e
      · rw [hv'] at e; simp [Value.ownBlock] at e; subst e; rw [hh] at hh'; simp at hh')).trans hh, hc, hm, hs, ht⟩
end
end Go.Proofs.YtffggmjhaaehlaaGreatDoor
