/- A queue that takes a task more, or gives its last one away; a heap made, a task pushed, the next one taken. Conditions: the queue is the call's own; its tasks are valid. -/
import Derived.Test.YtpkombjmbpgdnaaHeapD
namespace Go.Proofs.Ytpkombjmbpgdnaa
open Go.RowKit

theorem run_appQ (w : World) (ty : TypeId) (lo : Nat) (v : Value) (n : Nat) (zs : List Int) (hown : OwnTask lo w v n zs) (A : Option Addr) (k c : Nat) (xs : List Int) (hx : Sts 3 w A k xs) (hn : n + k ≤ 1000000) (hlo : lo ≤ w.heap.size) :
    ∃ v' w', (Builtin.append_ #[44, 44] ty #[v, .slice A k c]).run Try.prog w = .ok v' w' ∧ OwnTask lo w' v' (n + k) (zs ++ xs) ∧ w.grownBy w' v.ownBlock ∧ (v'.ownBlock = v.ownBlock ∨ v'.ownBlock = some w.heap.size) := by
  obtain ⟨i0, hi, hz0, hz1, hz2⟩ := info_parts info_Task
  have hl := hx.len
  rcases A with _ | ad
  · have h0 : k = 0 := by
      rcases Nat.eq_zero_or_pos k with h | h
      · exact h
      · obtain ⟨b, off, e, _⟩ := hx.at_ h
        cases e
    subst h0
    obtain rfl : xs = [] := List.eq_nil_of_length_eq_zero (by omega)
    refine ⟨v, w, ?_, by simpa using hown, World.grownBy.refl w _, .inl rfl⟩
    rcases hown.1.2 with ⟨rfl, _⟩ | ⟨g, cap, cur, rfl, _, _, hnc, _⟩
    · simp [Builtin.append_, run_underlying Try.underlying44, sizeOf, typeInfo, hi, Builtin.lenOf, Builtin.firstCells]
    · simp [Builtin.append_, run_underlying Try.underlying44, sizeOf, typeInfo, hi, Builtin.lenOf, Builtin.firstCells, hnc, storeCells]
  · have each : ∀ j, j < xs.length → w.cell? (ad.add j) = some (.int .i64 (xs.getD j 0)) := fun j hj => by
      obtain ⟨b, off, e, hb, hc⟩ := hx.at_ (by omega)
      obtain rfl := Option.some.inj e
      rw [Go.WideShapes.add_plain]
      exact hc j (by omega)
    obtain ⟨v', w', hr, h2, h3, _, h5⟩ := run_append_own_at (P := Try.prog) w lo 44 ty 30 i0 (.agg #[Value.int .i64 0, Value.int .i64 0, Value.int .i64 0]) 3 24 Try.underlying44 hi hz0 hz1 hz2 rfl (by decide) v n (zs.map (Value.int .i64)) hown.1 ad k c (xs.map (Value.int .i64)) (by simpa using hl) (fun j u hu => by
      have hj : j < xs.length := by
        rcases Nat.lt_or_ge j xs.length with h1 | h1
        · exact h1
        · rw [List.getElem?_eq_none (by simpa using h1)] at hu; cases hu
      have e : u = .int .i64 (xs.getD j 0) := by
        simp [hj] at hu ⊢
        exact hu.symm
      rw [e]
      exact each j hj) (fun u hu => by
      obtain ⟨z, _, rfl⟩ := List.mem_map.1 hu
      rfl) (by unfold maxLen; omega) (by omega) hlo
    refine ⟨v', w', hr, ⟨?_, by rw [List.length_append, hown.2, hl, Nat.add_mul]⟩, h3, h5⟩
    rw [List.map_append]
    exact h2
theorem step_appQ {w : World} {ops : Array Oper} {o : Oper} {a : Act} {K : Act → World → Prop} {Q : Exit → Act → World → Prop} {E : Prop} (hgd : o.guard = none) (s x : Operand)
    (ho : o.op = .call { callee := .builtin .append, args := #[s, x], argTypes := #[44, 44] }) (lo : Nat) (v : Value) (n : Nat) (zs : List Int) (hs : a.eval s = v) (hown : OwnTask lo w v n zs)
    (A : Option Addr) (k c : Nat) (xs : List Int) (hx : a.eval x = .slice A k c) (hr : Sts 3 w A k xs) (hn : n + k ≤ 1000000) (hlo : lo ≤ w.heap.size)
    (h : ∀ v' w', OwnTask lo w' v' (n + k) (zs ++ xs) → w.grownBy w' v.ownBlock → (v'.ownBlock = v.ownBlock ∨ v'.ownBlock = some w.heap.size) → K (a.put o.dst v') w') :
    if Region.wanted o (yielded ops a.tmps) = true then Oper.wp Try.prog o a w K Q else E := by
  have hw : Region.wanted o (yielded ops a.tmps) = true := by simp [Region.wanted, hgd]
  rw [if_pos hw]
  obtain ⟨v', w', hrun, h2, h3, h4⟩ := run_appQ w o.type lo v n zs hown A k c xs hr hn hlo
  unfold Oper.wp execOp
  simp only [ho, resolve, invoke, builtin, Sem.run_bind, Sem.run_pure, Result.andThen_ok, List.map_toArray, List.map_cons, List.map_nil, hs, hx, hrun]
  exact h v' w' h2 h3 h4
section
variable {lo g c n P : Nat} {w : World} {zs : List Int} {f : Nat → Tk} {t : Tk}
theorem OwnTask.far (h : OwnTask lo w (.slice (some ⟨g, 0, none⟩) n c) n zs) {p : Addr} (hp : p.block ≠ g) (u : Value) : OwnTask lo (w.setCell p u) (.slice (some ⟨g, 0, none⟩) n c) n zs := by
  refine ⟨⟨h.1.1, ?_⟩, h.2⟩
  rcases h.1.2 with ⟨hv, _⟩ | ⟨g', cap, cur, hv, hg, hh, hc, hm, hs, ht⟩
  · cases hv
  · injection hv with e1 e2 e3
    injection e1 with e1
    injection e1 with e1
    subst e1 e3
    exact .inr ⟨g, c, cur, rfl, hg, (Below.heap_setCell _ _ _ _ (fun e => hp e.symm)).trans hh, hc, hm, hs, ht⟩
theorem OwnTask.first (h : OwnTask lo w (.slice (some ⟨g, 0, none⟩) n c) n zs) {k : Nat} (hk : k ≤ n) : OwnTask lo w (.slice (some ⟨g, 0, none⟩) k c) k (zs.take (k * 3)) := by
  refine ⟨⟨by rw [List.length_map, List.length_take, h.2]; omega, ?_⟩, by rw [List.length_take, h.2]; omega⟩
  rcases h.1.2 with ⟨hv, _⟩ | ⟨g', cap, cur, hv, hg, hh, hc, hm, hs, ht⟩
  · cases hv
  · injection hv with e1 e2 e3
    injection e1 with e1
    injection e1 with e1
    subst e1 e3
    refine .inr ⟨g, c, cur, rfl, hg, hh, by omega, hm, hs, ?_⟩
    rw [List.map_take, ← ht, List.take_take, show min (k * 3) (n * 3) = k * 3 by omega]
theorem flatF_first (f : Nat → Tk) : ∀ {n k : Nat}, k ≤ n → (flatF f n).take (k * 3) = flatF f k
  | 0, k, h => by obtain rfl : k = 0 := by omega
                  rfl
  | n + 1, k, h => by
    have hl := flatF_len f n
    by_cases e : k = n + 1
    · subst e; rw [List.take_of_length_le (by rw [flatF_len]; exact Nat.le_refl _)]
    · show (flatF f n ++ _).take (k * 3) = _
      rw [List.take_append_of_le_length (by rw [hl]; omega)]
      exact flatF_first f (by omega)
theorem flatF_more (f : Nat → Tk) (n : Nat) (t : Tk) : flatF f n ++ [t.1, t.2.1, t.2.2] = flatF (upd1 f n t) (n + 1) := by
  show _ = flatF (upd1 f n t) n ++ _
  have e : flatF (upd1 f n t) n = flatF f n := flatF_congr fun k hk => if_neg (by omega)
  have e2 : upd1 f n t n = t := if_pos rfl
  rw [e, e2]
end
set_option maxHeartbeats 1000000 in
theorem Len_any (A : Option Addr) (n c : Nat) (w : World) : Calls Try.prog 16 #[.slice A n c] w fun e w' => e = .returned (.int .i64 n) ∧ w = w' := by
  go_enter Try.func16, Try.ntmps16
  go_wp2
  go_ret
  exact ⟨rfl, rfl⟩
/-- What a task more leaves. -/
def Pushed (lo P n : Nat) (f : Nat → Tk) (t : Tk) (w0 : World) (e : Ending) (w' : World) : Prop := e = .returned (.tuple #[]) ∧ ∃ g c, Qu lo w' P g c (n + 1) (upd1 f n t) ∧ New w0 w'
theorem Sts.of_rowT {w : World} {g : Nat} {zs : List Int} (h : Row w g zs) (hm : zs.length = 1 * 3 := by rfl) : Sts 3 w (some ⟨g, 0, none⟩) 1 zs :=
  ⟨hm, fun _ => ⟨g, 0, rfl, h.lt, fun i hi => by simpa using h.c i (by omega)⟩⟩
set_option maxRecDepth 100000 in
set_option maxHeartbeats 4000000 in
theorem qPush_any (lo P g c n : Nat) (f : Nat → Tk) (t0 t1 t2 : Int) (hn : n ≤ 1000) (w0 w : World) (h : Qu lo w P g c n f) (hN : New w0 w) (hl : w0.heap.size ≤ lo) (hlo : lo ≤ w.heap.size) :
    Calls Try.prog 76 #[.pointer (some ⟨P, 0, none⟩), .iface 30 (.agg #[.int .i64 t0, .int .i64 t1, .int .i64 t2])] w (Pushed lo P n f (t0, t1, t2) w0) := by
  have HQ := Lib.hid h; have NW := Lib.hid hN; have LW := Lib.hid hl; have LOW := Lib.hid hlo
  have ND := Lib.hid (New.refl w).drew
  have QF := Lib.hid (fun W (hW : New w W) => (h.new hW).cell)
  have hta : ∀ W : World, (Instr.typeAssert (.iface 30 (.agg #[.int .i64 t0, .int .i64 t1, .int .i64 t2])) 20 30 false).run Try.prog W = .ok (.agg #[.int .i64 t0, .int .i64 t1, .int .i64 t2]) W := fun W => by kernel_rfl
  clear h hN hl hlo
  go_enter Try.func76, Try.ntmps76
  go_wp2
  refine wp_region_noPanic ?_
  refine wp_region_held_drew (S := fun _ => True) (by kernel_rfl) (trivial) (fun hHeld => ?_)
  generalize w.drew = Vd at ND hHeld ⊢
  refine wpAnyH_take (i := 0) (oi := _) (v := ?_) rfl (by kernel_rfl) (by kernel_rfl) (by kernel_rfl) (fun _ _ _ h => h) (Or.inl ⟨by kernel_rfl, ?_⟩) (by assumption) ?_
  rotate_left; (intro w' hSw; (try dsimp only at hSw); go_split_ands; go_simp; (try with_reducible rfl))
  try dsimp only [Act.put]
  refine wpAnyH_take (i := 1) (oi := _) (v := ?_) rfl (by kernel_rfl) (by kernel_rfl) (by kernel_rfl) (fun _ _ _ h => h) (Or.inl ⟨by kernel_rfl, ?_⟩) (by assumption) ?_
  rotate_left; (intro w' hSw; (try dsimp only at hSw); go_split_ands; go_simp; (try with_reducible rfl))
  try dsimp only [Act.put]
  refine wpAnyH_take (i := 2) (oi := _) (v := ?_) rfl (by kernel_rfl) (by kernel_rfl) (by kernel_rfl) (fun _ _ _ h => h) (Or.inl ⟨by kernel_rfl, ?_⟩) (by assumption) ?_
  rotate_left; (intro w' hSw; (try dsimp only at hSw); go_split_ands; go_simp; (try with_reducible rfl))
  try dsimp only [Act.put]
  refine wpAnyH_take (i := 4) (oi := _) (v := ?_) rfl (by kernel_rfl) (by kernel_rfl) (by kernel_rfl) (fun _ _ _ h => h) (Or.inl ⟨by kernel_rfl, ?_⟩) (by assumption) ?_
  rotate_left; (intro w' hSw; (try dsimp only at hSw); go_split_ands; go_simp; (try with_reducible rfl))
  try dsimp only [Act.put]
  refine wpAnyH_take (i := 5) (oi := _) (v := ?_) rfl (by kernel_rfl) (by kernel_rfl) (by kernel_rfl) (fun _ _ _ h => h) (Or.inl ⟨by kernel_rfl, ?_⟩) (by assumption) ?_
  rotate_left; (intro w' hSw; (try dsimp only at hSw); go_split_ands; go_simp; (try with_reducible rfl))
  try dsimp only [Act.put]
  refine wpAnyH_ready (rs := [3, 6]) (by kernel_rfl) (by simp) ?_
  refine AllReadyH.cons (o := _) rfl (fun K hK => ?_) (AllReadyH.cons (o := _) rfl (fun K hK => ?_) AllReadyH.nil)
  · have c0 := QF.out Vd ND.out
    go_simp
    refine hK.out _ _ (trivial) (fun hH3 => ?_)
    clear hK K
    try dsimp only [Act.put]
    clear c0
    refine wpAnyH_ready (rs := [6]) (by kernel_rfl) (by simp) ?_
    refine AllReadyH.cons (o := _) rfl (fun K hK => ?_) AllReadyH.nil
    have RT := Lib.hid (Row.oneTask Vd t0 t1 t2 30)
    have NL := Lib.hid (ND.out.alloc (.cells #[.int .i64 t0, .int .i64 t1, .int .i64 t2] 30))
    go_simp
    refine hK.out _ _ (trivial) (fun hH6 => ?_)
    clear hK K
    try dsimp only [Act.put]
    obtain ⟨bT, hbT⟩ : ∃ b, Vd.heap.size = b := ⟨_, rfl⟩
    rw [hbT] at RT ⊢
    generalize Vd.alloc (.cells #[.int .i64 t0, .int .i64 t1, .int .i64 t2] 30) = VL at RT NL ⊢
    clear hbT
    refine wpAnyH_ready (rs := [7]) (by kernel_rfl) (by simp) ?_
    refine AllReadyH.cons (o := _) rfl (fun K hK => ?_) AllReadyH.nil
    refine step_appQ rfl (.tmp 7) (.tmp 10) rfl lo _ n _ rfl (HQ.out.own.new NL.out) _ 1 1 [t0, t1, t2] rfl (Sts.of_rowT RT.out) (by omega) (Nat.le_trans LOW.out NL.out.le) ?_
    intro v' w' O7 G7 B7
    obtain ⟨g', c', rfl, hg', _, _, hb'⟩ := O7.form.resolve_left (fun h => by have := h.2.1; omega)
    have ne' : g' ≠ P := by
      have hP := HQ.out.lt
      have hl := NL.out.le
      rw [hb'] at B7
      have hne := HQ.out.ne
      rcases B7 with h | h
      · have h1 : g' = g := Option.some.inj h
        omega
      · have h1 := Option.some.inj h
        omega
    rw [flatF_more f n (t0, t1, t2)] at O7
    have cP := (HQ.out.new NL.out).cell
    have N7 : New w0 w' := ⟨G7.os.trans (NW.out.trans NL.out).os, G7.tape.trans (NW.out.trans NL.out).tape, G7.output.trans (NW.out.trans NL.out).output, Nat.le_trans (NW.out.trans NL.out).size G7.size, fun i hi => (G7.block i (Nat.lt_of_lt_of_le hi (NW.out.trans NL.out).size) (fun e => by have h1 := HQ.out.row.1; have h2 := LW.out; first | (have e1 : i = g := Option.some.inj e; omega) | (have e1 : g = i := Option.some.inj e; omega))).trans ((NW.out.trans NL.out).block i hi)⟩
    have pc : w'.cell? ⟨P, 0, none⟩ = some (.slice (some ⟨g, 0, none⟩) n c) := (World.cell?_of_block (G7.block P (HQ.out.new NL.out).lt (fun e => by have := HQ.out.ne; first | (have e1 : P = g := Option.some.inj e; omega) | (have e1 : g = P := Option.some.inj e; omega)))).trans cP
    have pf : w'.frozen? ⟨P, 0, none⟩ = false := (World.frozen?_of_block (w := VL) (G7.block P (HQ.out.new NL.out).lt (fun e => by have := HQ.out.ne; first | (have e1 : P = g := Option.some.inj e; omega) | (have e1 : g = P := Option.some.inj e; omega)))).trans (HQ.out.new NL.out).fz
    have O7 := Lib.hid O7; have N7 := Lib.hid N7
    clear G7 B7 cP hg' hb'
    refine hK.out _ _ (trivial) (fun hH7 => ?_)
    clear hK K
    try dsimp only [Act.put]
    refine wpAnyH_take (i := 8) (oi := _) (v := ?_) rfl (by kernel_rfl) (by kernel_rfl) (by kernel_rfl) (fun _ _ _ h => h) (Or.inl ⟨by kernel_rfl, ?_⟩) (by assumption) ?_
    rotate_left; (intro w' hSw; (try dsimp only at hSw); go_split_ands; go_simp; (try with_reducible rfl))
    try dsimp only [Act.put]
    refine wpAnyH_ready (rs := [9]) (by kernel_rfl) (by simp) ?_
    refine AllReadyH.cons (o := _) rfl (fun K hK => ?_) AllReadyH.nil
    go_simp
    refine hK.out _ _ (trivial) (fun hH9 => ?_)
    clear hK K
    try dsimp only [Act.put]
    refine wpAnyH_done (by kernel_rfl) ?_ _
    refine NoPanic.normal ?_
    go_end0
    refine ⟨rfl, g', c', ⟨?_, ?_, O7.out.far (by simpa using fun e => ne' e.symm) _, ne', HQ.out.lo_⟩, N7.out.setCell (Nat.le_trans LW.out HQ.out.lo_) _⟩
    · simp [go_sem, pc]
    · simpa [go_sem] using pf
  · have RT := Lib.hid (Row.oneTask Vd t0 t1 t2 30)
    have NL := Lib.hid (ND.out.alloc (.cells #[.int .i64 t0, .int .i64 t1, .int .i64 t2] 30))
    go_simp
    refine hK.out _ _ (trivial) (fun hH6 => ?_)
    clear hK K
    try dsimp only [Act.put]
    obtain ⟨bT, hbT⟩ : ∃ b, Vd.heap.size = b := ⟨_, rfl⟩
    rw [hbT] at RT ⊢
    generalize Vd.alloc (.cells #[.int .i64 t0, .int .i64 t1, .int .i64 t2] 30) = VL at RT NL ⊢
    clear hbT
    refine wpAnyH_ready (rs := [3]) (by kernel_rfl) (by simp) ?_
    refine AllReadyH.cons (o := _) rfl (fun K hK => ?_) AllReadyH.nil
    have c0 := QF.out VL NL.out
    go_simp
    refine hK.out _ _ (trivial) (fun hH3 => ?_)
    clear hK K
    try dsimp only [Act.put]
    clear c0
    refine wpAnyH_ready (rs := [7]) (by kernel_rfl) (by simp) ?_
    refine AllReadyH.cons (o := _) rfl (fun K hK => ?_) AllReadyH.nil
    refine step_appQ rfl (.tmp 7) (.tmp 10) rfl lo _ n _ rfl (HQ.out.own.new NL.out) _ 1 1 [t0, t1, t2] rfl (Sts.of_rowT RT.out) (by omega) (Nat.le_trans LOW.out NL.out.le) ?_
    intro v' w' O7 G7 B7
    obtain ⟨g', c', rfl, hg', _, _, hb'⟩ := O7.form.resolve_left (fun h => by have := h.2.1; omega)
    have ne' : g' ≠ P := by
      have hP := HQ.out.lt
      have hl := NL.out.le
      rw [hb'] at B7
      have hne := HQ.out.ne
      rcases B7 with h | h
      · have h1 : g' = g := Option.some.inj h
        omega
      · have h1 := Option.some.inj h
        omega
    rw [flatF_more f n (t0, t1, t2)] at O7
    have cP := (HQ.out.new NL.out).cell
    have N7 : New w0 w' := ⟨G7.os.trans (NW.out.trans NL.out).os, G7.tape.trans (NW.out.trans NL.out).tape, G7.output.trans (NW.out.trans NL.out).output, Nat.le_trans (NW.out.trans NL.out).size G7.size, fun i hi => (G7.block i (Nat.lt_of_lt_of_le hi (NW.out.trans NL.out).size) (fun e => by have h1 := HQ.out.row.1; have h2 := LW.out; first | (have e1 : i = g := Option.some.inj e; omega) | (have e1 : g = i := Option.some.inj e; omega))).trans ((NW.out.trans NL.out).block i hi)⟩
    have pc : w'.cell? ⟨P, 0, none⟩ = some (.slice (some ⟨g, 0, none⟩) n c) := (World.cell?_of_block (G7.block P (HQ.out.new NL.out).lt (fun e => by have := HQ.out.ne; first | (have e1 : P = g := Option.some.inj e; omega) | (have e1 : g = P := Option.some.inj e; omega)))).trans cP
    have pf : w'.frozen? ⟨P, 0, none⟩ = false := (World.frozen?_of_block (w := VL) (G7.block P (HQ.out.new NL.out).lt (fun e => by have := HQ.out.ne; first | (have e1 : P = g := Option.some.inj e; omega) | (have e1 : g = P := Option.some.inj e; omega)))).trans (HQ.out.new NL.out).fz
    have O7 := Lib.hid O7; have N7 := Lib.hid N7
    clear G7 B7 cP hg' hb'
    refine hK.out _ _ (trivial) (fun hH7 => ?_)
    clear hK K
    try dsimp only [Act.put]
    refine wpAnyH_take (i := 8) (oi := _) (v := ?_) rfl (by kernel_rfl) (by kernel_rfl) (by kernel_rfl) (fun _ _ _ h => h) (Or.inl ⟨by kernel_rfl, ?_⟩) (by assumption) ?_
    rotate_left; (intro w' hSw; (try dsimp only at hSw); go_split_ands; go_simp; (try with_reducible rfl))
    try dsimp only [Act.put]
    refine wpAnyH_ready (rs := [9]) (by kernel_rfl) (by simp) ?_
    refine AllReadyH.cons (o := _) rfl (fun K hK => ?_) AllReadyH.nil
    go_simp
    refine hK.out _ _ (trivial) (fun hH9 => ?_)
    clear hK K
    try dsimp only [Act.put]
    refine wpAnyH_done (by kernel_rfl) ?_ _
    refine NoPanic.normal ?_
    go_end0
    refine ⟨rfl, g', c', ⟨?_, ?_, O7.out.far (by simpa using fun e => ne' e.symm) _, ne', HQ.out.lo_⟩, N7.out.setCell (Nat.le_trans LW.out HQ.out.lo_) _⟩
    · simp [go_sem, pc]
    · simpa [go_sem] using pf
end Go.Proofs.Ytpkombjmbpgdnaa
