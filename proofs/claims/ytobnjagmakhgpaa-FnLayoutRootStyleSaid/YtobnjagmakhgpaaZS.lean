/- Parts that belong together: RectS, RectA. Conditions: as each part says. -/
import Derived.Test.YtobnjagmakhgpaaZA
import Derived.Test.YtobnjagmakhgpaaZC
/- The helpers of the exact laws on slices of Rect: copied, measured, compared and marked. Conditions: the slices can be read, or lie in a block of the call's own. -/
namespace Go.Proofs.Ytobnjagmakhgpaa
open Go.RowKit

theorem mkRect (n : Nat) (hn : n ≤ 1048576) (W : World) : (Instr.makeSlice 26 (.int .i64 (n : Int)) (.int .i64 (n : Int))).run Try.prog W = .ok (.slice (some ⟨W.heap.size, 0, none⟩) n n) (W.alloc (.cells (madeCells #[Value.int .i64 0, Value.int .i64 0, Value.int .i64 0, Value.int .i64 0] (n * 4)) 39)) := by
  have hinfo : (Try.prog.info? 39).map (fun i => (i.zero, i.size, i.bytes)) = some (some (.agg #[Value.int .i64 0, Value.int .i64 0, Value.int .i64 0, Value.int .i64 0]), 4, 32) := by kernel_rfl
  obtain ⟨i, hi, hzz⟩ := Option.map_eq_some_iff.1 hinfo
  simp only [Prod.mk.injEq] at hzz
  obtain ⟨hz, hs, hb⟩ := hzz
  have h := run_make (P := Try.prog) W 26 39 i (.agg #[Value.int .i64 0, Value.int .i64 0, Value.int .i64 0, Value.int .i64 0]) Try.underlying26 hi hz .i64 .i64 (n : Int) (n : Int) (by omega) (by omega) (by rw [hb]; omega) (by omega)
  rw [hs] at h
  exact h
theorem zeroRect (i : Nat) : (#[Value.int .i64 0, Value.int .i64 0, Value.int .i64 0, Value.int .i64 0] : Array Value)[i % (#[Value.int .i64 0, Value.int .i64 0, Value.int .i64 0, Value.int .i64 0] : Array Value).size]! = .int .i64 0 := by
  have h : i % 4 < 4 := Nat.mod_lt _ (by omega)
  have hs : (#[Value.int .i64 0, Value.int .i64 0, Value.int .i64 0, Value.int .i64 0] : Array Value).size = 4 := rfl
  rw [hs]
  generalize i % 4 = j at h
  match j, h with
  | 0, _ => rfl
  | 1, _ => rfl
  | 2, _ => rfl
  | 3, _ => rfl
  | j + 4, h => omega
theorem rowRect_step {w2 : World} {g k n : Nat} {xs : List Int} (r : Row w2 g (upTo (k * 4) xs)) (hx : xs.length = n * 4) (hlt : k < n) : Row ((((w2.setCell ⟨g, k * 4, none⟩ (.int .i64 (xs.getD (k * 4) 0))).setCell ⟨g, k * 4 + 1, none⟩ (.int .i64 (xs.getD (k * 4 + 1) 0))).setCell ⟨g, k * 4 + 2, none⟩ (.int .i64 (xs.getD (k * 4 + 2) 0))).setCell ⟨g, k * 4 + 3, none⟩ (.int .i64 (xs.getD (k * 4 + 3) 0))) g (upTo ((k + 1) * 4) xs) := by
  have lq : ∀ j, j < 4 → k * 4 + j < xs.length := fun j hj => by rw [hx]; exact idx_lt hlt hj
  have r := r.set_ (k := k * 4) (by rw [upTo_len _ _ (by have := lq 0 (by omega); omega)]; exact lq 0 (by omega)) (xs.getD (k * 4) 0)
  rw [upTo_step (k * 4) xs (by have := lq 0 (by omega); omega)] at r
  have r := r.set_ (k := k * 4 + 1) (by rw [upTo_len _ _ (by have := lq 1 (by omega); omega)]; exact lq 1 (by omega)) (xs.getD (k * 4 + 1) 0)
  rw [upTo_step (k * 4 + 1) xs (by have := lq 1 (by omega); omega)] at r
  have r := r.set_ (k := k * 4 + 2) (by rw [upTo_len _ _ (by have := lq 2 (by omega); omega)]; exact lq 2 (by omega)) (xs.getD (k * 4 + 2) 0)
  rw [upTo_step (k * 4 + 2) xs (by have := lq 2 (by omega); omega)] at r
  have r := r.set_ (k := k * 4 + 3) (by rw [upTo_len _ _ (by have := lq 3 (by omega); omega)]; exact lq 3 (by omega)) (xs.getD (k * 4 + 3) 0)
  rw [upTo_step (k * 4 + 3) xs (by have := lq 3 (by omega); omega)] at r
  rw [Nat.add_mul, Nat.one_mul]
  exact r
end Go.Proofs.Ytobnjagmakhgpaa

/- Lists of Rect that grow by append: what owning such a list means, and what each append leaves. Conditions: the list is short. -/
namespace Go.Proofs.Ytobnjagmakhgpaa
open Go.RowKit

/-- The slice value v owns n structs with the numbers zs, in a block from lo on. -/
def OwnRect (lo : Nat) (w : World) (v : Value) (n : Nat) (zs : List Int) : Prop := w.ownsRow lo 39 4 v n (zs.map (Value.int .i64)) ∧ zs.length = n * 4
section
variable {lo n : Nat} {w w' w0 : World} {v : Value} {zs : List Int}
theorem OwnRect.form (h : OwnRect lo w v n zs) : (v = .slice none 0 0 ∧ n = 0 ∧ zs = []) ∨ ∃ g c, v = .slice (some ⟨g, 0, none⟩) n c ∧ lo ≤ g ∧ Row w g zs ∧ n ≤ c ∧ v.ownBlock = some g := by
  obtain ⟨h, hl⟩ := h
  rcases h.2 with ⟨hv, hn⟩ | ⟨g, cap, cur, hv, hg, hh, hc, hm, hs, ht⟩
  · exact .inl ⟨hv, hn, List.eq_nil_of_length_eq_zero (by omega)⟩
  · refine .inr ⟨g, cap, hv, hg, ?_, hc, by rw [hv]; rfl⟩
    have hlt : g < w.heap.size := by
      rcases Nat.lt_or_ge g w.heap.size with h1 | h1
      · exact h1
      · rw [Array.getElem?_eq_none h1] at hh; cases hh
    refine ⟨hlt, fun i hi => ?_, fun i _ => by simp [World.frozen?, hh]⟩
    rw [cell_of_row w g i cur 39 (0, 0) hh]
    have e : cur[i]? = (cur.toList.take (n * 4))[i]? := by
      rw [List.getElem?_take_of_lt (by omega)]
      simp
    rw [e, ht]
    simp [hi]
theorem OwnRect.res (h : OwnRect lo w v n zs) : ∃ A c, v = .slice A n c ∧ n ≤ c ∧ Res lo w.heap.size w A zs := by
  rcases h.form with ⟨rfl, rfl, rfl⟩ | ⟨g, c, rfl, hg, hR, hc, _⟩
  · exact ⟨none, 0, rfl, Nat.le_refl _, Res.nil _ _ _⟩
  · exact ⟨_, c, rfl, hc, Res.of_row hR hg⟩
theorem OwnRect.below (h : OwnRect lo w v n zs) {g : Nat} (hg : v.ownBlock = some g) : lo ≤ g := by
  rcases h.form with ⟨rfl, _, _⟩ | ⟨g', c, rfl, hg', _, _, e⟩
  · simp [Value.ownBlock] at hg
  · rw [e] at hg; have := Option.some.inj hg; omega
theorem OwnRect.kept (h : OwnRect lo w v n zs) {r : Option Nat} (k : w.grownBy w' r) (hr : ∀ g, r = some g → g < lo) : OwnRect lo w' v n zs := by
  refine ⟨⟨h.1.1, ?_⟩, h.2⟩
  rcases h.1.2 with hn | ⟨g, cap, cur, hv, hg, hh, hc, hm, hs, ht⟩
  · exact .inl hn
  · have hlt : g < w.heap.size := by
      rcases Nat.lt_or_ge g w.heap.size with h1 | h1
      · exact h1
      · rw [Array.getElem?_eq_none h1] at hh; cases hh
    exact .inr ⟨g, cap, cur, hv, hg, (k.block g hlt (fun e => by have := hr g e.symm; omega)).trans hh, hc, hm, hs, ht⟩
theorem OwnRect.new (h : OwnRect lo w v n zs) (k : New w w') : OwnRect lo w' v n zs := h.kept (k.grown none) (fun _ e => by cases e)
theorem OwnRect.alloc (h : OwnRect lo w v n zs) (o : Obj) : OwnRect lo (w.alloc o) v n zs := h.new ((New.refl _).alloc o)
theorem OwnRect.empty (w : World) (hl : lo ≤ w.heap.size) : OwnRect lo (w.alloc (.cells #[] 39)) (.slice (some ⟨w.heap.size, 0, none⟩) 0 0) 0 [] :=
  ⟨⟨rfl, .inr ⟨w.heap.size, 0, #[], rfl, hl, heap_alloc_new w _, Nat.le_refl _, Nat.zero_le _, rfl, rfl⟩⟩, rfl⟩
theorem new_ownRect (h : New w0 w) (k : w.grownBy w' v.ownBlock) (ho : OwnRect lo w v n zs) (hl : w0.heap.size ≤ lo) : New w0 w' :=
  ⟨k.os.trans h.os, k.tape.trans h.tape, k.output.trans h.output, Nat.le_trans h.size k.size, fun i hi => (k.block i (Nat.lt_of_lt_of_le hi h.size) (fun e => by have := ho.below e.symm; omega)).trans (h.block i hi)⟩
theorem only_ownRect {a : Nat} (h : w0.grownBy w (some a)) (k : w.grownBy w' v.ownBlock) (ho : OwnRect lo w v n zs) (hl : w0.heap.size ≤ lo) : w0.grownBy w' (some a) :=
  ⟨k.os.trans h.os, k.tape.trans h.tape, k.output.trans h.output, Nat.le_trans h.size k.size, fun i hi hne => (k.block i (Nat.lt_of_lt_of_le hi h.size) (fun e => by have := ho.below e.symm; omega)).trans (h.block i hi hne)⟩
theorem Rdr.ownRect {a : Nat} {A : Option Addr} {m p : Nat} (h : Rdr w a A m p) (k : w.grownBy w' v.ownBlock) (ho : OwnRect lo w v n zs) (hl : a < lo) : Rdr w' a A m p :=
  h.grown k (fun _ e => by have := ho.below e; omega)
end
theorem info_Rect : (Try.prog.info? 39).map (fun i => (i.zero, i.size, i.bytes)) = some (some (.agg #[Value.int .i64 0, Value.int .i64 0, Value.int .i64 0, Value.int .i64 0]), 4, 32) := by kernel_rfl
theorem wp_appRect {w : World} {ops : Array Oper} {rest : List Oper} {o : Oper} {a : Act} {Q : Exit → Act → World → Prop} (hgd : o.guard = none) (s x : Operand)
    (ho : o.op = .call { callee := .builtin .append, args := #[s, x], argTypes := #[26, 26] }) (lo : Nat) (v : Value) (n : Nat) (zs : List Int) (hs : a.eval s = v) (hown : OwnRect lo w v n zs)
    (g : Nat) (y0 y1 y2 y3 : Int) (hx : a.eval x = .slice (some ⟨g, 0, none⟩) 1 1) (hr : Row w g [y0, y1, y2, y3]) (hn : n ≤ 1000) (hlo : lo ≤ w.heap.size)
    (h : ∀ v' w', OwnRect lo w' v' (n + 1) (zs ++ [y0, y1, y2, y3]) → w.grownBy w' v.ownBlock → wpList Try.prog ops Q rest (a.put o.dst v') w') : wpList Try.prog ops Q (o :: rest) a w :=
  wpList_plain hgd fun K hK => by
    obtain ⟨i0, hi, hz0, hz1, hz2⟩ := info_parts info_Rect
    obtain ⟨v', w', hrun, h2, h3, _, _⟩ := run_append_own_at (P := Try.prog) w lo 26 o.type 39 i0 (.agg #[Value.int .i64 0, Value.int .i64 0, Value.int .i64 0, Value.int .i64 0]) 4 32 Try.underlying26 hi hz0 hz1 hz2 rfl (by decide) v n (zs.map (Value.int .i64)) hown.1 ⟨g, 0, none⟩ 1 1 ([y0, y1, y2, y3].map (Value.int .i64)) rfl (fun j u hu => by
      have hj : j < 4 := by
        rcases Nat.lt_or_ge j 4 with h1 | h1
        · exact h1
        · rw [List.getElem?_eq_none (by simpa using h1)] at hu; cases hu
      have hc := hr.c j (by simpa using hj)
      have e : u = .int .i64 ([y0, y1, y2, y3].getD j 0) := by
        match j, hj with
        | 0, _ => simp at hu; exact hu.symm
        | 1, _ => simp at hu; exact hu.symm
        | 2, _ => simp at hu; exact hu.symm
        | 3, _ => simp at hu; exact hu.symm
        | j + 4, hj => omega
      rw [e, Go.WideShapes.add_plain, Nat.zero_add]
      exact hc) (fun u hu => by
      obtain ⟨z, _, rfl⟩ := List.mem_map.1 hu
      rfl) (by unfold maxLen; omega) (by omega) hlo
    unfold Oper.wp execOp
    simp only [ho, resolve, invoke, builtin, Sem.run_bind, Sem.run_pure, Result.andThen_ok, List.map_toArray, List.map_cons, List.map_nil, hs, hx, hrun]
    refine hK _ _ (h v' w' ⟨?_, by rw [List.length_append, hown.2]; simp; omega⟩ h3)
    rw [List.map_append]
    exact h2
theorem Row.oneRect (w : World) (y0 y1 y2 y3 : Int) (t : TypeId) : Row (w.alloc (.cells #[.int .i64 y0, .int .i64 y1, .int .i64 y2, .int .i64 y3] t)) w.heap.size [y0, y1, y2, y3] :=
  ⟨by simp, fun i hi => by
    have hi' : i < 4 := by simpa using hi
    match i, hi' with
    | 0, _ => simp [go_sem]
    | 1, _ => simp [go_sem]
    | 2, _ => simp [go_sem]
    | 3, _ => simp [go_sem]
    | i + 4, h => omega, fun i hi => by simp [go_sem]⟩
end Go.Proofs.Ytobnjagmakhgpaa
