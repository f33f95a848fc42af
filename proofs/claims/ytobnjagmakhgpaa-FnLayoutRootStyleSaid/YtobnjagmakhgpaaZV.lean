/- Parts that belong together: LayQ, LayO. Conditions: as each part says. -/
import Derived.Test.YtobnjagmakhgpaaLayM
import Derived.Test.YtobnjagmakhgpaaZU
import Derived.Deep.LoopGhost
import Derived.Deep.Cut
import Derived.Deep.CutRange
/- Plain facts on layouts made box by box: rectangles that are set, boxes that wait, and how many are still to come. No condition. -/
namespace Go.Proofs.Ytobnjagmakhgpaa
open Go.RowKit

/-- The rectangles of some boxes are set. -/
def setR (f : Nat → Rq) (qs : List Rq) (l : List Nat) : List Rq := l.foldl (fun qs j => qs.set j (f j)) qs
/-- Every box has its rectangle, or is in a box that waits. -/
def LInv (zs : List Int) (n : Nat) (f : Nat → Rq) (S : List Nat) (qs : List Rq) : Prop :=
  qs.length = n ∧ (∀ a ∈ S, a < n ∧ qs.getD a rq0 = f a) ∧ ∀ j, j < n → qs.getD j rq0 = f j ∨ ∃ a ∈ S, anc zs a j = true ∧ a ≠ j
/-- How many boxes the boxes that wait have in them. -/
def mS (zs : List Int) (n : Nat) (S : List Nat) : Nat := (S.map fun a => en zs n a - a).sum
section
variable {zs : List Int} {n a j k : Nat} {f : Nat → Rq} {S l : List Nat} {qs : List Rq}
theorem setR_len : ∀ (l : List Nat) (qs : List Rq), (setR f qs l).length = qs.length
  | [], _ => rfl
  | x :: l, qs => by show (setR f (qs.set x (f x)) l).length = _; rw [setR_len l]; simp
theorem setR_snoc (qs : List Rq) (l : List Nat) (j : Nat) : setR f qs (l ++ [j]) = (setR f qs l).set j (f j) := by unfold setR; rw [List.foldl_append]; rfl
theorem getD_setq {qs : List Rq} {k j : Nat} {q : Rq} (h : j < qs.length) : (qs.set k q).getD j rq0 = if k = j then q else qs.getD j rq0 := by
  have h1 : (qs.set k q).getD j rq0 = (qs.set k q)[j]'(by simpa using h) := by simp [h]
  have h2 : qs.getD j rq0 = qs[j] := by simp [h]
  rw [h1, h2, List.getElem_set]
theorem setR_at : ∀ (l : List Nat) (qs : List Rq), j < qs.length → (setR f qs l).getD j rq0 = if j ∈ l then f j else qs.getD j rq0
  | [], qs, _ => by simp [setR]
  | x :: l, qs, h => by
    show (setR f (qs.set x (f x)) l).getD j rq0 = _
    rw [setR_at l _ (by simpa using h), getD_setq h]
    by_cases h1 : j ∈ l
    · rw [if_pos h1, if_pos (List.mem_cons_of_mem _ h1)]
    · rw [if_neg h1]
      by_cases h2 : x = j
      · rw [if_pos h2, if_pos (by rw [h2]; exact List.mem_cons_self), h2]
      · rw [if_neg h2, if_neg (fun h => by rcases List.mem_cons.1 h with h | h; exact h2 h.symm; exact h1 h)]
theorem kid_above (h1 : anc zs a j = true) (hn : j ≠ a) (hj : j < n) : ∃ k ∈ kidL zs n a, anc zs k j = true := by
  induction j using Nat.strongRecOn with
  | ind j ih =>
    rcases par_cases zs j with ⟨p, e, hp⟩ | h2
    · rw [anc_par e hp hn] at h1
      by_cases hpa : p = a
      · subst hpa; exact ⟨j, kid_mem.2 ⟨hj, e⟩, anc_self _ _⟩
      · obtain ⟨k, hk, h3⟩ := ih p hp h1 hpa (by omega)
        have := anc_le h3
        exact ⟨k, hk, by rw [anc_par e hp (by omega)]; exact h3⟩
    · rw [anc_top h2 hn] at h1; cases h1
theorem LInv.start (hL : Link zs n) (hn : 0 < n) (h : qs.length = n) (h0 : qs.getD 0 rq0 = f 0) : LInv zs n f [0] qs :=
  ⟨h, fun a ha => by rw [List.mem_singleton.1 ha]; exact ⟨hn, h0⟩, fun j hj => by
    by_cases e : j = 0
    · rw [e]; exact .inl h0
    · exact .inr ⟨0, List.mem_singleton.2 rfl, hL.root_anc hj, fun h => e h.symm⟩⟩
theorem LInv.step (h : LInv zs n f (S ++ [a]) qs) : LInv zs n f (S ++ kidL zs n a) (setR f qs (kidL zs n a)) := by
  obtain ⟨h1, h2, h3⟩ := h
  refine ⟨by rw [setR_len, h1], fun b hb => ?_, fun j hj => ?_⟩
  · rcases List.mem_append.1 hb with hb | hb
    · obtain ⟨h4, h5⟩ := h2 b (List.mem_append_left _ hb)
      refine ⟨h4, ?_⟩
      rw [setR_at _ _ (by omega), h5]
      split <;> rfl
    · have h4 := (kid_mem.1 hb).1
      exact ⟨h4, by rw [setR_at _ _ (by omega), if_pos hb]⟩
  · rw [setR_at _ _ (by omega)]
    by_cases hk : j ∈ kidL zs n a
    · exact .inl (by rw [if_pos hk])
    · rw [if_neg hk]
      rcases h3 j hj with h4 | ⟨b, hb, h5, h6⟩
      · exact .inl h4
      · rcases List.mem_append.1 hb with hb | hb
        · exact .inr ⟨b, List.mem_append_left _ hb, h5, h6⟩
        · obtain rfl := List.mem_singleton.1 hb
          obtain ⟨k, hk2, h7⟩ := kid_above h5 (fun e => h6 e.symm) hj
          exact .inr ⟨k, List.mem_append_right _ hk2, h7, fun e => hk (e ▸ hk2)⟩
theorem LInv.done (h : LInv zs n f [] qs) : qs = (List.range n).map f := by
  obtain ⟨h1, _, h3⟩ := h
  refine List.ext_getElem (by simp [h1]) fun j h4 h5 => ?_
  have h6 := h3 j (by omega)
  rcases h6 with h6 | ⟨a, ha, _⟩
  · simp [h4] at h6; simp [h6]
  · cases ha
theorem mS_snoc (S : List Nat) (a : Nat) : mS zs n (S ++ [a]) = mS zs n S + (en zs n a - a) := by unfold mS; rw [List.map_append, List.sum_append]; simp
theorem mS_step (hL : Link zs n) (ha : a < n) : mS zs n (S ++ kidL zs n a) < mS zs n (S ++ [a]) := by
  rw [mS_snoc]
  unfold mS
  rw [List.map_append, List.sum_append]
  have h1 := kid_sum hL ha
  have h2 := en_bd (zs := zs) ha
  have key : ∀ l : List Nat, (∀ j ∈ l, j < n) → (((l.map fun j => en zs n j - j).sum : Nat) : Int) = (l.map fun j => (en zs n j : Int) - (j : Int)).sum := by
    intro l
    induction l with
    | nil => intro _; rfl
    | cons x l ih =>
      intro hl
      have h3 := en_bd (zs := zs) (hl x List.mem_cons_self)
      simp only [List.map_cons, List.sum_cons, Int.natCast_add, ih fun j hj => hl j (List.mem_cons_of_mem _ hj)]
      omega
  have h4 := key (kidL zs n a) fun j hj => (kid_mem.1 hj).1
  rw [h1] at h4
  omega
/-- A waiting list is short. -/
theorem len_mS : ∀ (S : List Nat), (∀ a ∈ S, a < n) → S.length ≤ mS zs n S
  | [], _ => Nat.zero_le _
  | x :: S, h => by
    have h1 := len_mS S fun a ha => h a (List.mem_cons_of_mem _ ha)
    have h2 := en_bd (zs := zs) (h x List.mem_cons_self)
    have e : mS zs n (x :: S) = (en zs n x - x) + mS zs n S := by unfold mS; simp
    rw [List.length_cons, e]; omega
theorem mS_zero (hn : 0 < n) : mS zs n [0] ≤ n := by
  have h := en_bd (zs := zs) hn
  unfold mS
  simp
  omega
theorem lay_range_at (j : Nat) (hj : j < n) : ((List.range n).map f).getD j rq0 = f j := by simp [hj]
end
end Go.Proofs.Ytobnjagmakhgpaa

/- The program's layoutOf, walked: boxes wait on a stack until those in them have their rectangles. Conditions: the nodes are linked, and the tree is valid. -/
namespace Go.Proofs.Ytobnjagmakhgpaa
open Go.RowKit

/-- The slice value v owns pointers to these nodes, in a block from lo on. -/
def OwnP (lo : Nat) (w : World) (nb : Nat → Nat) (v : Value) (S : List Nat) : Prop := w.ownsRow lo 67 1 v S.length (S.map fun j => Value.pointer (some ⟨nb j, 0, none⟩))
section
variable {lo : Nat} {w w' w0 : World} {v : Value} {nb : Nat → Nat} {S : List Nat}
theorem OwnP.form (h : OwnP lo w nb v S) : (v = .slice none 0 0 ∧ S = []) ∨ ∃ g c, v = .slice (some ⟨g, 0, none⟩) S.length c ∧ lo ≤ g ∧ g < w.heap.size ∧ (∀ i, i < S.length → w.cell? ⟨g, i, none⟩ = some (.pointer (some ⟨nb (S.getD i 0), 0, none⟩))) ∧ S.length ≤ c ∧ v.ownBlock = some g := by
  rcases h.2 with ⟨hv, hn⟩ | ⟨g, cap, cur, hv, hg, hh, hc, hm, hs, ht⟩
  · exact .inl ⟨hv, List.eq_nil_of_length_eq_zero hn⟩
  · refine .inr ⟨g, cap, hv, hg, (h.lt g (by rw [hv]; rfl)).2, fun i hi => ?_, hc, by rw [hv]; rfl⟩
    have h1 := h
    unfold OwnP at h1
    rw [hv] at h1
    rw [h1.cellAt i (by omega)]
    simp [hi]
theorem OwnP.below (h : OwnP lo w nb v S) {g : Nat} (hg : v.ownBlock = some g) : lo ≤ g := (h.lt g hg).1
theorem OwnP.kept (h : OwnP lo w nb v S) {r : Option Nat} (k : w.grownBy w' r) (hr : v.ownBlock = none ∨ v.ownBlock ≠ r) : OwnP lo w' nb v S := World.ownsRow.kept h k hr
theorem OwnP.new (h : OwnP lo w nb v S) (k : New w w') : OwnP lo w' nb v S := by
  cases hb : v.ownBlock with
  | none => exact h.kept (k.grown none) (.inl hb)
  | some g => exact h.kept (k.grown none) (.inr (by rw [hb]; simp))
theorem new_ownP (h : New w0 w) (k : w.grownBy w' v.ownBlock) (ho : OwnP lo w nb v S) (hl : w0.heap.size ≤ lo) : New w0 w' :=
  ⟨k.os.trans h.os, k.tape.trans h.tape, k.output.trans h.output, Nat.le_trans h.size k.size, fun i hi => (k.block i (Nat.lt_of_lt_of_le hi h.size) (fun e => by have := ho.below e.symm; omega)).trans (h.block i hi)⟩
/-- The last one is taken off. -/
theorem OwnP.pop {a : Nat} {A : Option Addr} {m c : Nat} (h : OwnP lo w nb (.slice A m c) (S ++ [a])) : OwnP lo w nb (.slice A (m - 1) c) S := by
  have hl : (S ++ [a]).length = S.length + 1 := by simp
  rcases h.2 with ⟨hv, hn⟩ | ⟨g, cap, cur, hv, hg, hh, hc, hm, hs, ht⟩
  · omega
  · obtain ⟨rfl, rfl, rfl⟩ : A = some ⟨g, 0, none⟩ ∧ m = (S ++ [a]).length ∧ c = cap := by simpa using hv
    refine ⟨by simp, .inr ⟨g, c, cur, by rw [hl]; rfl, hg, hh, by omega, hm, hs, ?_⟩⟩
    have e : cur.toList.take (S.length * 1) = (cur.toList.take ((S ++ [a]).length * 1)).take (S.length * 1) := by rw [List.take_take]; congr 1; rw [hl]; omega
    rw [e, ht, List.map_append]
    simp
end
theorem Row.keepR {w w' : World} {g : Nat} {zs : List Int} {r : Option Nat} (h : Row w g zs) (k : w.grownBy w' r) (hr : r ≠ some g) : Row w' g zs :=
  ⟨Nat.lt_of_lt_of_le h.lt k.size, fun i hi => (World.cell?_of_block (k.block g h.lt (fun e => hr e.symm))).trans (h.c i hi), fun i hi => (World.frozen?_of_block (w := w) (k.block g h.lt (fun e => hr e.symm))).trans (h.f i hi)⟩
theorem info_nodeP : (Try.prog.info? 67).map (fun i => (i.zero, i.size, i.bytes)) = some (some (.pointer none), 1, 8) := by kernel_rfl
theorem wp_appP {w : World} {ops : Array Oper} {rest : List Oper} {o : Oper} {a : Act} {Q : Exit → Act → World → Prop} (hgd : o.guard = none) (s x : Operand)
    (ho : o.op = .call { callee := .builtin .append, args := #[s, x], argTypes := #[60, 60] }) (lo : Nat) (nb : Nat → Nat) (v : Value) (S : List Nat) (hs : a.eval s = v) (hown : OwnP lo w nb v S)
    (g j : Nat) (hx : a.eval x = .slice (some ⟨g, 0, none⟩) 1 1) (hr : w.cell? ⟨g, 0, none⟩ = some (.pointer (some ⟨nb j, 0, none⟩))) (hn : S.length ≤ 1000) (hlo : lo ≤ w.heap.size)
    (h : ∀ v' w', OwnP lo w' nb v' (S ++ [j]) → w.grownBy w' v.ownBlock → (v'.ownBlock = v.ownBlock ∨ v'.ownBlock = some w.heap.size) → wpList Try.prog ops Q rest (a.put o.dst v') w') : wpList Try.prog ops Q (o :: rest) a w :=
  wpList_plain hgd fun K hK => by
    obtain ⟨i0, hi, hz0, hz1, hz2⟩ := info_parts info_nodeP
    obtain ⟨v', w', hrun, h2, h3, _, h5⟩ := run_append_own_at (P := Try.prog) w lo 60 o.type 67 i0 (.pointer none) 1 8 Try.underlying60 hi hz0 hz1 hz2 rfl (by decide) v S.length _ hown ⟨g, 0, none⟩ 1 1 [.pointer (some ⟨nb j, 0, none⟩)] rfl (fun j' u hu => by
      match j', hu with
      | 0, hu => simp at hu; subst hu; simpa [Addr.add] using hr) (fun u hu => by simp at hu; subst hu; rfl) (by unfold maxLen; omega) (by omega) hlo
    unfold Oper.wp execOp
    simp only [ho, resolve, invoke, builtin, Sem.run_bind, Sem.run_pure, Result.andThen_ok, List.map_toArray, List.map_cons, List.map_nil, hs, hx, hrun]
    refine hK _ _ (h v' w' ?_ h3 h5)
    unfold OwnP
    rw [List.length_append, List.map_append]
    exact h2
theorem OwnP.lit (w : World) (nb : Nat → Nat) (j : Nat) : OwnP w.heap.size (w.alloc (.cells #[.pointer (some ⟨nb j, 0, none⟩)] 67)) nb (.slice (some ⟨w.heap.size, 0, none⟩) 1 1) [j] :=
  World.ownsRow_lit w #[.pointer (some ⟨nb j, 0, none⟩)] 1 (Nat.le_refl _) (by unfold maxLen; omega) rfl
set_option maxRecDepth 100000 in
set_option maxHeartbeats 8000000 in
theorem layoutOf_any (lo : Nat) (nb : Nat → Nat) (zs : List Int) (n gp : Nat) (ar fi la ne : Nat → Option Nat) (hv : vtB n zs = true) (W H : Int) (hW : 0 ≤ W ∧ W ≤ 10000) (hH : 0 ≤ H ∧ H ≤ 10000) (w : World) (h : Lnk lo w nb zs n ar fi la ne) (hp : PRow w gp nb n n) :
    Calls Try.prog 40 #[.slice (some ⟨gp, 0, none⟩) n n, .agg #[.int .i64 W, .int .i64 H]] w (AnsS 4 w (flat4 ((List.range n).map (layR zs n W H)))) := by
  have n16 := (vtB_iff.1 hv).1
  have hmk := fun W => mkRect n (by omega) W
  have HL := Lib.hid h
  have pc := hp.c 0 (by omega)
  have pl := hp.lt
  have ni1 : (1 : Int) ≤ (n : Int) := by omega
  have LB := Lib.hid (fun i hi => lay_bd hv hW hH i hi)
  have LK := Lib.hid (link_vt hv)
  have L0 := Lib.hid (show layR zs n W H 0 = (0, 0, W, H) from lay_top (by have := (link_vt hv).root (by omega); omega))
  have LKD := Lib.hid (fun a j (done rest : List Nat) (e : kidL zs n a = done ++ j :: rest) => lay_kid (W := W) (H := H) (link_vt hv) e)
  have SB := Lib.hid ((New.refl w).alloc (.cells #[.int .i64 W, .int .i64 H] 65))
  have szb : (w.alloc (.cells #[.int .i64 W, .int .i64 H] 65)).heap.size = w.heap.size + 1 := by simp
  have R0 := Row.zeros (w.alloc (.cells #[.int .i64 W, .int .i64 H] 65)) #[Value.int .i64 0, Value.int .i64 0, Value.int .i64 0, Value.int .i64 0] (n * 4) 39 zeroRect
  have e0 : List.replicate (n * 4) (0 : Int) = flat4 (List.replicate n rq0) := by
    have key : ∀ n, List.replicate (n * 4) (0 : Int) = flat4 (List.replicate n rq0) := by
      intro n
      induction n with
      | zero => rfl
      | succ n ih =>
        rw [show (n + 1) * 4 = n * 4 + 1 + 1 + 1 + 1 by omega]
        simp only [List.replicate_succ, ih]
        rfl
    exact key n
  rw [e0, szb] at R0
  have R0 := Lib.hid R0
  clear h hp hW hH e0
  go_enter Try.func40, Try.ntmps40
  go_upto_region 2 with fail
  clear hmk
  have s0 : (w.alloc (.cells #[.int .i64 W, .int .i64 H] 65)).cell? ⟨w.heap.size, 0, none⟩ = some (.int .i64 W) := by simp [go_sem]
  have s1 : (w.alloc (.cells #[.int .i64 W, .int .i64 H] 65)).cell? ⟨w.heap.size, 1, none⟩ = some (.int .i64 H) := by simp [go_sem]
  generalize hWa : (w.alloc (.cells #[.int .i64 W, .int .i64 H] 65)) = Wa at *
  have SA := Lib.hid ((New.refl Wa).alloc (.cells (madeCells #[Value.int .i64 0, Value.int .i64 0, Value.int .i64 0, Value.int .i64 0] (n * 4)) 39))
  generalize hWb : Wa.alloc (.cells (madeCells #[Value.int .i64 0, Value.int .i64 0, Value.int .i64 0, Value.int .i64 0] (n * 4)) 39) = Wb at *
  clear hWb hWa
  have lr : (flat4 (List.replicate n rq0)).length = n * 4 := by rw [flat4_len, List.length_replicate]
  obtain ⟨z0, z1, z2, z3⟩ := (⟨R0.out.c 0 (by omega), R0.out.c 1 (by omega), R0.out.c 2 (by omega), R0.out.c 3 (by omega)⟩ : _ ∧ _ ∧ _ ∧ _)
  obtain ⟨f0, f1, f2, f3⟩ := (⟨R0.out.f 0 (by omega), R0.out.f 1 (by omega), R0.out.f 2 (by omega), R0.out.f 3 (by omega)⟩ : _ ∧ _ ∧ _ ∧ _)
  have RS := Lib.hid (show Row ((((Wb.setCell ⟨w.heap.size + 1, 0, none⟩ (.int .i64 0)).setCell ⟨w.heap.size + 1, 1, none⟩ (.int .i64 0)).setCell ⟨w.heap.size + 1, 2, none⟩ (.int .i64 W)).setCell ⟨w.heap.size + 1, 3, none⟩ (.int .i64 H)) (w.heap.size + 1) (flat4 ((List.replicate n rq0).set 0 (0, 0, W, H))) by
    have h := R0.out.setQ (k := 0) (by simp; omega) (0, 0, W, H); simpa using h)
  have q0 := (SA.out.cells w.heap.size 0 (by omega)).trans s0; have q1 := (SA.out.cells w.heap.size 1 (by omega)).trans s1
  have pcb := ((SB.out.trans SA.out).cells gp 0 pl).trans pc
  have ngp : gp ≠ w.heap.size + 1 := by omega
  have sWb : w.heap.size + 1 < Wb.heap.size := R0.out.lt
  clear pc
  have OL := Lib.hid (show OwnP Wb.heap.size (((((Wb.setCell ⟨w.heap.size + 1, 0, none⟩ (.int .i64 0)).setCell ⟨w.heap.size + 1, 1, none⟩ (.int .i64 0)).setCell ⟨w.heap.size + 1, 2, none⟩ (.int .i64 W)).setCell ⟨w.heap.size + 1, 3, none⟩ (.int .i64 H)).alloc (.cells #[.pointer (some ⟨nb 0, 0, none⟩)] 67)) nb (.slice (some ⟨Wb.heap.size, 0, none⟩) 1 1) [0] by
    have h := OwnP.lit ((((Wb.setCell ⟨w.heap.size + 1, 0, none⟩ (.int .i64 0)).setCell ⟨w.heap.size + 1, 1, none⟩ (.int .i64 0)).setCell ⟨w.heap.size + 1, 2, none⟩ (.int .i64 W)).setCell ⟨w.heap.size + 1, 3, none⟩ (.int .i64 H)) nb 0
    simpa using h)
  have NL := Lib.hid ((((((SB.out.trans SA.out).setCell (p := ⟨w.heap.size + 1, 0, none⟩) (by simp) (.int .i64 0)).setCell (p := ⟨w.heap.size + 1, 1, none⟩) (by simp) (.int .i64 0)).setCell (p := ⟨w.heap.size + 1, 2, none⟩) (by simp) (.int .i64 W)).setCell (p := ⟨w.heap.size + 1, 3, none⟩) (by simp) (.int .i64 H)).alloc (.cells #[.pointer (some ⟨nb 0, 0, none⟩)] 67))
  have LI := Lib.hid (LInv.start (f := layR zs n W H) (qs := (List.replicate n rq0).set 0 (0, 0, W, H)) LK.out (by omega) (by simp) (by rw [getD_setq (by simp; omega), if_pos rfl, L0.out]))
  have RS := Lib.hid (RS.out.new ((New.refl _).alloc (.cells #[.pointer (some ⟨nb 0, 0, none⟩)] 67)))
  have sws : w.heap.size + 1 < Wb.heap.size := sWb
  go_wp2
  generalize (((((Wb.setCell ⟨w.heap.size + 1, 0, none⟩ (.int .i64 0)).setCell ⟨w.heap.size + 1, 1, none⟩ (.int .i64 0)).setCell ⟨w.heap.size + 1, 2, none⟩ (.int .i64 W)).setCell ⟨w.heap.size + 1, 3, none⟩ (.int .i64 H)).alloc (.cells #[.pointer (some ⟨nb 0, 0, none⟩)] 67)) = Wc at OL NL RS ⊢
  generalize Wb.heap.size = lo2 at *
  clear q0 q1 z0 z1 z2 z3 f0 f1 f2 f3 s0 s1 pcb R0 SA SB sWb ngp L0 lr szb
  go_loopg [6] n (fun kk v wr => ∃ (S : List Nat) (qs : List Rq), Hid (OwnP lo2 wr nb v S) ∧ Hid (Row wr (w.heap.size + 1) (flat4 qs)) ∧ Hid (LInv zs n (layR zs n W H) S qs) ∧ mS zs n S ≤ kk ∧ kk ≤ n ∧ Hid (New w wr))
  case atStart => exact ⟨[0], _, OL, RS, LI, mS_zero (by omega), Nat.le_refl _, NL⟩
  case round =>
    obtain ⟨S, qs, HO, HR, HI, hm, hk, HN⟩ := hrel
    rcases List.eq_nil_or_concat S with rfl | ⟨S, a, rfl⟩
    · obtain ⟨A6, c6, hv6⟩ : ∃ A6 c6, u6 = .slice A6 0 c6 := by
        rcases HO.out.form with ⟨h1, _⟩ | ⟨g, c, h1, _⟩
        · exact ⟨none, 0, h1⟩
        · exact ⟨_, c, h1⟩
      subst hv6
      have HE := HR.out
      rw [HI.out.done] at HE
      have HE := Lib.hid HE
      have L4 : Hid ((flat4 ((List.range n).map (layR zs n W H))).length = n * 4) := Lib.hid (by rw [flat4_len]; simp)
      clear HI HR HO
      go_wp2
      go_ret
      exact AnsS.row rfl L4.out (by omega) HE.out HN.out
    -- THE REST
    · obtain ⟨wo, rfl⟩ : ∃ x, x = wr := ⟨wr, rfl⟩
      rw [List.concat_eq_append] at HO HI hm
      have len17 : S.length + 1 ≤ 17 := by
        have h1 := len_mS (zs := zs) (S ++ [a]) fun b hb => (HI.out.2.1 b hb).1
        rw [List.length_append, List.length_singleton] at h1
        omega
      obtain ⟨ha, qa⟩ := HI.out.2.1 a (List.mem_append_right _ (List.mem_singleton.2 rfl))
      obtain ⟨gv, cc, hv6, g1, g2, g3, g4⟩ : ∃ g c, u6 = .slice (some ⟨g, 0, none⟩) (S.length + 1) c ∧ lo2 ≤ g ∧ g < wo.heap.size ∧ wo.cell? ⟨g, S.length, none⟩ = some (.pointer (some ⟨nb a, 0, none⟩)) ∧ S.length + 1 ≤ c := by
        rcases HO.out.form with ⟨_, h1⟩ | ⟨g, c, h1, h2, h3, h4, h5, _⟩
        · exact absurd h1 (by simp)
        · rw [List.length_append, List.length_singleton] at h1 h4 h5
          exact ⟨g, c, h1, h2, h3, by have h6 := h4 S.length (by omega); simpa using h6, h5⟩
      subst hv6
      have HO1 := Lib.hid (show OwnP lo2 wo nb (.slice (some ⟨gv, 0, none⟩) S.length cc) S by have h1 := HO.out.pop; simpa using h1)
      have HI2 := Lib.hid (LInv.step HI.out)
      have MS := Lib.hid (Nat.lt_of_lt_of_le (mS_step (S := S) LK.out ha) hm)
      have lq := HI.out.1
      have LQ := Lib.hid lq
      have PLen := Lib.hid (plcL_len (zs := zs) (n := n) (i := a) (q := layR zs n W H a))
      have rb := LB.out a ha
      have rb2 := rb
      unfold RqB at rb2
      have d5 := dep_le5 hv ha
      have vr := rb.vR (by have := dep_le5 hv ha; omega)
      have pb := pad_bd hv ha
      have ib := inQ_bd (zs := zs) (i := a) pb rb
      have KB := ((vtB_iff.1 hv).2 a ha).1.1
      obtain ⟨c0, c1, c2, c3⟩ := flat4_at qs a
      rw [qa] at c0 c1 c2 c3
      have F4 := Lib.hid (show (flat4 qs).length = n * 4 by rw [flat4_len, lq])
      have PD := Lib.hid (fun W1 (hW : New w W1) => (show W1.cell? ⟨nb a, 4, none⟩ = some (.int .i64 (zs.getD (a * 9 + 4) 0)) ∧ W1.cell? ⟨nb a, 9, none⟩ = some (.int .i64 (a : Int)) ∧ W1.cell? ⟨nb a, 11, none⟩ = some (pv nb (kidL zs n a).head?) from ⟨(HL.out.nd.new hW).box a ha 4 (by omega), (HL.out.nd.new hW).num a ha, by have h1 := (HL.out.nd.new hW).fi a ha; rw [HL.out.sh.fi a ha] at h1; exact h1⟩))
      obtain ⟨kd, hkd⟩ : ∃ kd, knd zs a = kd := ⟨_, rfl⟩
      have KA := Lib.hid (fun W1 (hW : New w W1) => kind_any lo nb zs n a ar fi la ne ha kd hkd W1 (HL.out.nd.new hW))
      have PL2 := Lib.hid (fun (h2 : kd = 2) W1 (hW : New w W1) => (show Calls Try.prog 144 #[.agg #[], .pointer (some ⟨nb a, 0, none⟩), qv (inQ zs a (layR zs n W H a))] W1 (AnsQ 4 W1 (flat4 (plcL zs n a (layR zs n W H a)))) by
        unfold plcL; rw [if_pos (hkd.trans h2)]
        exact rowP_any lo nb zs n a ar fi la ne hv ha _ (by omega) W1 (HL.out.new hW)))
      have PL3 := Lib.hid (fun (h3 : kd = 3) W1 (hW : New w W1) => (show Calls Try.prog 153 #[.agg #[], .pointer (some ⟨nb a, 0, none⟩), qv (inQ zs a (layR zs n W H a))] W1 (AnsQ 4 W1 (flat4 (plcL zs n a (layR zs n W H a)))) by
        unfold plcL; rw [if_neg (by omega), if_pos (hkd.trans h3)]
        exact colP_any lo nb zs n a ar fi la ne hv ha _ (by omega) W1 (HL.out.new hW)))
      have PL1 := Lib.hid (fun (h1 : kd = 1) W1 (hW : New w W1) => (show Calls Try.prog 138 #[.agg #[], .pointer (some ⟨nb a, 0, none⟩), qv (inQ zs a (layR zs n W H a))] W1 (AnsQ 4 W1 (flat4 (plcL zs n a (layR zs n W H a)))) by
        unfold plcL; rw [if_neg (by omega), if_neg (by omega)]
        exact blockP_any lo nb zs n a ar fi la ne hv ha _ (by omega) W1 (HL.out.new hW)))
      have PL0 := Lib.hid (fun (h0 : kd = 0) W1 (_hW : New w W1) => (show Calls Try.prog 156 #[.agg #[], .pointer (some ⟨nb a, 0, none⟩), qv (inQ zs a (layR zs n W H a))] W1 (AnsQ 4 W1 (flat4 (plcL zs n a (layR zs n W H a)))) by
        have hk0 : kidL zs n a = [] := List.eq_nil_iff_forall_not_mem.2 fun j hj => kid_kind hv hj (hkd.trans h0)
        have e : plcL zs n a (layR zs n W H a) = [] := List.eq_nil_of_length_eq_zero (by rw [plcL_len, hk0]; rfl)
        rw [e]
        exact leafP_any _ _ W1))
      have IN := Lib.hid (fun W1 => inset_any (layR zs n W H a).1 (layR zs n W H a).2.1 (layR zs n W H a).2.2.1 (layR zs n W H a).2.2.2 (zs.getD (a * 9 + 4) 0) W1 vr pb.1 pb.2)
      have hkd4 : kd = 0 ∨ kd = 1 ∨ kd = 2 ∨ kd = 3 := by omega
      have KID := Lib.hid (fun j (done rest : List Nat) (e : kidL zs n a = done ++ j :: rest) => LKD.out a j done rest e)
      have HS0 := Lib.hid HI.out
      clear hm HI qa KB hkd ib
      obtain ⟨ps, hps⟩ : ∃ ps, plcL zs n a (layR zs n W H a) = ps := ⟨_, rfl⟩
      rw [hps] at PL0 PL1 PL2 PL3 PLen KID
      clear hps rb vr rb2 d5
      unfold inQ at PL0 PL1 PL2 PL3
      generalize nL (layR zs n W H a).1 (layR zs n W H a).2.2.1 (zs.getD (a * 9 + 4) 0) = r0 at *
      generalize nL (layR zs n W H a).2.1 (layR zs n W H a).2.2.2 (zs.getD (a * 9 + 4) 0) = r1 at *
      generalize nW (layR zs n W H a).2.2.1 (zs.getD (a * 9 + 4) 0) = r2 at *
      generalize nW (layR zs n W H a).2.2.2 (zs.getD (a * 9 + 4) 0) = r3 at *
      generalize zs.getD (a * 9 + 4) 0 = pd at *
      obtain ⟨b0, b1, b2, b3⟩ := (⟨HR.out.c (a * 4) (by rw [F4.out]; omega), HR.out.c (a * 4 + 1) (by rw [F4.out]; omega), HR.out.c (a * 4 + 2) (by rw [F4.out]; omega), HR.out.c (a * 4 + 3) (by rw [F4.out]; omega)⟩ : _ ∧ _ ∧ _ ∧ _)
      rw [c0] at b0; rw [c1] at b1; rw [c2] at b2; rw [c3] at b3
      generalize (layR zs n W H a).1 = x0 at *
      generalize (layR zs n W H a).2.1 = x1 at *
      generalize (layR zs n W H a).2.2.1 = x2 at *
      generalize (layR zs n W H a).2.2.2 = x3 at *
      have grl := HR.out.lt
      have BB := Lib.hid (⟨b0, b1, b2, b3⟩ : _ ∧ _ ∧ _ ∧ _)
      have KF := Lib.hid (fun W1 (hW : New wo W1) => (show W1.cell? ⟨nb a, 4, none⟩ = some (.int .i64 pd) ∧ W1.cell? ⟨nb a, 9, none⟩ = some (.int .i64 (a : Int)) ∧ W1.cell? ⟨w.heap.size + 1, a * 4, none⟩ = some (.int .i64 x0) ∧ W1.cell? ⟨w.heap.size + 1, a * 4 + 1, none⟩ = some (.int .i64 x1) ∧ W1.cell? ⟨w.heap.size + 1, a * 4 + 2, none⟩ = some (.int .i64 x2) ∧ W1.cell? ⟨w.heap.size + 1, a * 4 + 3, none⟩ = some (.int .i64 x3) from
        ⟨(PD.out W1 (HN.out.trans hW)).1, (PD.out W1 (HN.out.trans hW)).2.1, (hW.cells _ _ grl).trans BB.out.1, (hW.cells _ _ grl).trans BB.out.2.1, (hW.cells _ _ grl).trans BB.out.2.2.1, (hW.cells _ _ grl).trans BB.out.2.2.2⟩))
      clear c0 c1 c2 c3 b0 b1 b2 b3
      obtain ⟨sl, hsl⟩ : ∃ sl, S.length = sl := ⟨_, rfl⟩
      rw [hsl] at g3 g4 HO1 len17 ⊢
      have an : (a : Int) < (n : Int) := by omega
      have a0 : (0 : Int) ≤ (a : Int) := by omega
      have sl0 : (0 : Int) ≤ (sl : Int) := by omega
      have sl1 : (sl : Int) ≤ 16 := by omega
      have SL := Lib.hid hsl
      have es : ((sl + 1 : Nat) : Int) - 1 = (sl : Int) := by omega
      have ec : (sl : Int) ≤ (cc : Int) := by omega
      have DD := Lib.hid (dep_le zs a)
      clear hsl HO pb
      go_wp2
      go_cut [9] from 38 to 58 (fun v wx => ∃ (A2 : Option Addr) (mk d2 l9 : Nat), v = .slice A2 mk d2 ∧ mk ≤ d2 ∧ wo.heap.size ≤ l9 ∧ Hid ((flat4 ps).length = mk * 4) ∧ Hid (Res l9 wx.heap.size wx A2 (flat4 ps)) ∧ Hid (New wo wx))
      case first =>
        rcases hkd4 with rfl | rfl | rfl | rfl
        · have KA2 := Lib.hid (show ∀ W1, New w W1 → Calls Try.prog 74 #[.pointer (some ⟨nb a, 0, none⟩)] W1 fun e w' => e = .returned (.iface 120 (.agg #[])) ∧ W1 = w' from KA.out)
          have PL := Lib.hid (PL0.out rfl)
          clear PL0 PL1 PL2 PL3 KA
          have hna : ∀ w : World, (nilAhead 272 120 (.agg #[]) "loop.example/flexlayout/impl.place").run Try.prog w = .ok (some false) w := fun _ => by kernel_rfl
          have NC := Lib.hid (New.refl wo).drew
          have KK := KF.out _ NC.out
          go_region_held3 (fun w' => w'.cell? ⟨nb a, 4, none⟩ = some (.int .i64 pd) ∧ w'.cell? ⟨nb a, 9, none⟩ = some (.int .i64 (a : Int)) ∧ w'.cell? ⟨w.heap.size + 1, a * 4, none⟩ = some (.int .i64 x0) ∧ w'.cell? ⟨w.heap.size + 1, a * 4 + 1, none⟩ = some (.int .i64 x1) ∧ w'.cell? ⟨w.heap.size + 1, a * 4 + 2, none⟩ = some (.int .i64 x2) ∧ w'.cell? ⟨w.heap.size + 1, a * 4 + 3, none⟩ = some (.int .i64 x3))
            (first | exact KK | assumption)
            (first
              | (go_at_call 74; refine (KA2.out _ (HN.out.trans NC.out)).mono ?_; rintro e w' ⟨rfl, rfl⟩)
              | (go_at_call 75; refine (IN.out _).mono ?_; rintro e wk ⟨rfl, Nk⟩; (have KK := KF.out wk (NC.out.trans Nk)); (replace NC := Lib.hid (NC.out.trans Nk)); clear Nk)
              | (go_at_call 156; refine (PL.out _ (HN.out.trans NC.out)).mono ?_; rintro e wk ⟨A2, n2, d2, rfl, dq, l2, r2, Nk⟩; (have zk := NC.out.le); (have R2 := Lib.hid r2); (have L2 := Lib.hid l2); (have KK := KF.out wk (NC.out.trans Nk)); (replace NC := Lib.hid (NC.out.trans Nk)); clear Nk l2 r2))
          all_goals
            go_wp2_with fail
            go_meet
            exact ⟨A2, n2, d2, _, rfl, dq, zk, L2, R2, NC⟩
        · have KA2 := Lib.hid (show ∀ W1, New w W1 → Calls Try.prog 74 #[.pointer (some ⟨nb a, 0, none⟩)] W1 fun e w' => e = .returned (.iface 116 (.agg #[])) ∧ W1 = w' from KA.out)
          have PL := Lib.hid (PL1.out rfl)
          clear PL0 PL1 PL2 PL3 KA
          have hna : ∀ w : World, (nilAhead 272 116 (.agg #[]) "loop.example/flexlayout/impl.place").run Try.prog w = .ok (some false) w := fun _ => by kernel_rfl
          have NC := Lib.hid (New.refl wo).drew
          have KK := KF.out _ NC.out
          go_region_held3 (fun w' => w'.cell? ⟨nb a, 4, none⟩ = some (.int .i64 pd) ∧ w'.cell? ⟨nb a, 9, none⟩ = some (.int .i64 (a : Int)) ∧ w'.cell? ⟨w.heap.size + 1, a * 4, none⟩ = some (.int .i64 x0) ∧ w'.cell? ⟨w.heap.size + 1, a * 4 + 1, none⟩ = some (.int .i64 x1) ∧ w'.cell? ⟨w.heap.size + 1, a * 4 + 2, none⟩ = some (.int .i64 x2) ∧ w'.cell? ⟨w.heap.size + 1, a * 4 + 3, none⟩ = some (.int .i64 x3))
            (first | exact KK | assumption)
            (first
              | (go_at_call 74; refine (KA2.out _ (HN.out.trans NC.out)).mono ?_; rintro e w' ⟨rfl, rfl⟩)
              | (go_at_call 75; refine (IN.out _).mono ?_; rintro e wk ⟨rfl, Nk⟩; (have KK := KF.out wk (NC.out.trans Nk)); (replace NC := Lib.hid (NC.out.trans Nk)); clear Nk)
              | (go_at_call 138; refine (PL.out _ (HN.out.trans NC.out)).mono ?_; rintro e wk ⟨A2, n2, d2, rfl, dq, l2, r2, Nk⟩; (have zk := NC.out.le); (have R2 := Lib.hid r2); (have L2 := Lib.hid l2); (have KK := KF.out wk (NC.out.trans Nk)); (replace NC := Lib.hid (NC.out.trans Nk)); clear Nk l2 r2))
          all_goals
            go_wp2_with fail
            go_meet
            exact ⟨A2, n2, d2, _, rfl, dq, zk, L2, R2, NC⟩
        · have KA2 := Lib.hid (show ∀ W1, New w W1 → Calls Try.prog 74 #[.pointer (some ⟨nb a, 0, none⟩)] W1 fun e w' => e = .returned (.iface 117 (.agg #[])) ∧ W1 = w' from KA.out)
          have PL := Lib.hid (PL2.out rfl)
          clear PL0 PL1 PL2 PL3 KA
          have hna : ∀ w : World, (nilAhead 272 117 (.agg #[]) "loop.example/flexlayout/impl.place").run Try.prog w = .ok (some false) w := fun _ => by kernel_rfl
          have NC := Lib.hid (New.refl wo).drew
          have KK := KF.out _ NC.out
          go_region_held3 (fun w' => w'.cell? ⟨nb a, 4, none⟩ = some (.int .i64 pd) ∧ w'.cell? ⟨nb a, 9, none⟩ = some (.int .i64 (a : Int)) ∧ w'.cell? ⟨w.heap.size + 1, a * 4, none⟩ = some (.int .i64 x0) ∧ w'.cell? ⟨w.heap.size + 1, a * 4 + 1, none⟩ = some (.int .i64 x1) ∧ w'.cell? ⟨w.heap.size + 1, a * 4 + 2, none⟩ = some (.int .i64 x2) ∧ w'.cell? ⟨w.heap.size + 1, a * 4 + 3, none⟩ = some (.int .i64 x3))
            (first | exact KK | assumption)
            (first
              | (go_at_call 74; refine (KA2.out _ (HN.out.trans NC.out)).mono ?_; rintro e w' ⟨rfl, rfl⟩)
              | (go_at_call 75; refine (IN.out _).mono ?_; rintro e wk ⟨rfl, Nk⟩; (have KK := KF.out wk (NC.out.trans Nk)); (replace NC := Lib.hid (NC.out.trans Nk)); clear Nk)
              | (go_at_call 144; refine (PL.out _ (HN.out.trans NC.out)).mono ?_; rintro e wk ⟨A2, n2, d2, rfl, dq, l2, r2, Nk⟩; (have zk := NC.out.le); (have R2 := Lib.hid r2); (have L2 := Lib.hid l2); (have KK := KF.out wk (NC.out.trans Nk)); (replace NC := Lib.hid (NC.out.trans Nk)); clear Nk l2 r2))
          all_goals
            go_wp2_with fail
            go_meet
            exact ⟨A2, n2, d2, _, rfl, dq, zk, L2, R2, NC⟩
        · have KA2 := Lib.hid (show ∀ W1, New w W1 → Calls Try.prog 74 #[.pointer (some ⟨nb a, 0, none⟩)] W1 fun e w' => e = .returned (.iface 119 (.agg #[])) ∧ W1 = w' from KA.out)
          have PL := Lib.hid (PL3.out rfl)
          clear PL0 PL1 PL2 PL3 KA
          have hna : ∀ w : World, (nilAhead 272 119 (.agg #[]) "loop.example/flexlayout/impl.place").run Try.prog w = .ok (some false) w := fun _ => by kernel_rfl
          have NC := Lib.hid (New.refl wo).drew
          have KK := KF.out _ NC.out
          go_region_held3 (fun w' => w'.cell? ⟨nb a, 4, none⟩ = some (.int .i64 pd) ∧ w'.cell? ⟨nb a, 9, none⟩ = some (.int .i64 (a : Int)) ∧ w'.cell? ⟨w.heap.size + 1, a * 4, none⟩ = some (.int .i64 x0) ∧ w'.cell? ⟨w.heap.size + 1, a * 4 + 1, none⟩ = some (.int .i64 x1) ∧ w'.cell? ⟨w.heap.size + 1, a * 4 + 2, none⟩ = some (.int .i64 x2) ∧ w'.cell? ⟨w.heap.size + 1, a * 4 + 3, none⟩ = some (.int .i64 x3))
            (first | exact KK | assumption)
            (first
              | (go_at_call 74; refine (KA2.out _ (HN.out.trans NC.out)).mono ?_; rintro e w' ⟨rfl, rfl⟩)
              | (go_at_call 75; refine (IN.out _).mono ?_; rintro e wk ⟨rfl, Nk⟩; (have KK := KF.out wk (NC.out.trans Nk)); (replace NC := Lib.hid (NC.out.trans Nk)); clear Nk)
              | (go_at_call 153; refine (PL.out _ (HN.out.trans NC.out)).mono ?_; rintro e wk ⟨A2, n2, d2, rfl, dq, l2, r2, Nk⟩; (have zk := NC.out.le); (have R2 := Lib.hid r2); (have L2 := Lib.hid l2); (have KK := KF.out wk (NC.out.trans Nk)); (replace NC := Lib.hid (NC.out.trans Nk)); clear Nk l2 r2))
          all_goals
            go_wp2_with fail
            go_meet
            exact ⟨A2, n2, d2, _, rfl, dq, zk, L2, R2, NC⟩
      case rest =>
        obtain ⟨A2, mk, d2, lo9, rfl, dq, h9, L2, R9, NC⟩ := hcut
        clear PL0 PL1 PL2 PL3 KA IN BB
        have NR := Lib.hid (HN.out.trans NC.out)
        have hmk : ps.length = mk := by have h1 := L2.out; rw [flat4_len] at h1; omega
        have PLm := Lib.hid (show (kidL zs n a).length = mk by rw [← PLen.out, hmk])
        have HMK := Lib.hid hmk
        have mk8 : mk ≤ 8 := by have h1 := kids_le (a := a) hv; rw [PLm.out] at h1; exact h1
        have FI := (PD.out wc NR.out).2.2
        have HR9 := Lib.hid (HR.out.new NC.out)
        have HO9 := Lib.hid (HO1.out.new NC.out)
        clear KF NC hmk
        rcases Nat.eq_zero_or_pos mk with h0 | h0
        · have hk0 : kidL zs n a = [] := List.eq_nil_of_length_eq_zero (by rw [PLm.out, h0])
          have HK0 := Lib.hid hk0
          rw [hk0, List.head?_nil, pv_none] at FI
          clear hk0
          subst h0
          go_wp2
          go_loopw [6, 10] (fun v k wq => v = .slice (some ⟨gv, 0, none⟩) sl cc ∧ k = .pointer none ∧ wq = wc) (fun _ _ _ => 0)
          case atStart => exact ⟨rfl, rfl, rfl⟩
          case round =>
            obtain ⟨rfl, rfl, rfl⟩ := hrel
            go_wp2
            go_roundg (mS zs n (S ++ kidL zs n a))
            case measure => exact MS.out
            case rel => exact ⟨S ++ kidL zs n a, setR (layR zs n W H) qs (kidL zs n a), Lib.hid (by rw [HK0.out, List.append_nil]; exact HO9.out), Lib.hid (by rw [HK0.out]; exact HR9.out), HI2, Nat.le_refl _, Nat.le_trans (Nat.le_of_lt MS.out) hk, NR⟩
        · obtain ⟨b9, rfl, u1, u2, HB⟩ := R9.out.2 (by rw [L2.out]; omega)
          have HB := Lib.hid HB
          clear R9
          go_wp2
          go_loopw [6, 9, 10] (fun v p k wq => ∃ (done rest : List Nat) (o9 : Nat), Hid (kidL zs n a = done ++ rest) ∧ k = pv nb rest.head? ∧ p = .slice (some ⟨b9, o9, none⟩) (mk - done.length) (d2 - done.length) ∧ Hid (done.length < mk → o9 = done.length * 4) ∧ Hid (OwnP lo2 wq nb v (S ++ done)) ∧ Hid (v.ownBlock ≠ some b9) ∧ Hid (Row wq (w.heap.size + 1) (flat4 (setR (layR zs n W H) qs done))) ∧ Hid (Row wq b9 (flat4 ps)) ∧ Hid (New w wq)) (fun _ _ k wq => upOf n wq k)
          case atStart => exact ⟨[], kidL zs n a, 0, Lib.hid rfl, rfl, rfl, Lib.hid (fun _ => by simp), Lib.hid (by rw [List.append_nil]; exact HO9.out), Lib.hid (by simp [Value.ownBlock]; omega), HR9, HB, NR⟩
          case round =>
            obtain ⟨done, rest, o9, HK, rfl, rfl, HO9, HO, HB1, HRq, HRb, HNw⟩ := hrel
            cases rest with
            | nil =>
              simp only [List.head?_nil, pv_none]
              have e1 := HK.out
              rw [List.append_nil] at e1
              have HE1 := Lib.hid e1
              obtain ⟨vq, hvq⟩ : ∃ vq, vq = u6 := ⟨_, rfl⟩
              rw [← hvq] at HO ⊢
              clear hvq e1 HK HB1
              go_wp2
              go_roundg (mS zs n (S ++ kidL zs n a))
              case measure => exact MS.out
              case rel => exact ⟨S ++ kidL zs n a, setR (layR zs n W H) qs (kidL zs n a), Lib.hid (by rw [HE1.out]; exact HO.out), Lib.hid (by rw [HE1.out]; exact HRq.out), HI2, Nat.le_refl _, Nat.le_trans (Nat.le_of_lt MS.out) hk, HNw⟩
            | cons j rest =>
              have hlt : done.length < mk := by
                have h1 := PLm.out
                rw [HK.out, List.length_append, List.length_cons] at h1
                omega
              obtain rfl := HO9.out hlt
              have hjm := HL.out.lk.kid_in (j := j) (a := a) (by rw [HK.out]; simp)
              have nj := (HL.out.nd.new HNw.out).upOf_some hjm.2.2
              have hnx : ∀ r, rest.head? = some r → j < r ∧ r < n := fun r hr => by
                cases rest with
                | nil => cases hr
                | cons r' rest' =>
                  obtain rfl : r' = r := by simpa using hr
                  have hs := kid_sorted zs n a
                  rw [HK.out] at hs
                  obtain ⟨_, hs2, _⟩ := List.pairwise_append.1 hs
                  exact ⟨(List.pairwise_cons.1 hs2).1 _ List.mem_cons_self, (HL.out.lk.kid_in (j := r') (a := a) (by rw [HK.out]; simp)).2.2⟩
              have NX := Lib.hid hnx
              have hjk := hjm.2.2
              have HK2 : Hid (kidL zs n a = (done ++ [j]) ++ rest) := Lib.hid (by rw [HK.out]; simp)
              have kj := KID.out j done rest HK.out
              obtain ⟨v0, v1, v2, v3⟩ := flat4_at ps done.length
              rw [← kj] at v0 v1 v2 v3
              have p0 := HRb.out.c (done.length * 4) (by rw [L2.out]; omega); have p1 := HRb.out.c (done.length * 4 + 1) (by rw [L2.out]; omega); have p2 := HRb.out.c (done.length * 4 + 2) (by rw [L2.out]; omega); have p3 := HRb.out.c (done.length * 4 + 3) (by rw [L2.out]; omega)
              rw [v0] at p0; rw [v1] at p1; rw [v2] at p2; rw [v3] at p3
              have lsr : (setR (layR zs n W H) qs done).length = n := by rw [setR_len, LQ.out]
              have LF := Lib.hid (show (flat4 (setR (layR zs n W H) qs done)).length = n * 4 by rw [flat4_len, lsr])
              have SN := Lib.hid (setR_snoc (f := layR zs n W H) qs done j)
              have gj := (HL.out.nd.new HNw.out).num j hjk
              have GN := Lib.hid (fun W1 (hW : New w W1) => (show W1.cell? ⟨nb j, 13, none⟩ = some (pv nb rest.head?) from ((HL.out.nd.new hW).ne j hjk).trans (by rw [HL.out.sh.ne a done j rest ha (by rw [HK2.out]; simp)])))
              have HS := Lib.hid (fun (w2 : World) (h2 : New wr w2) => (HRq.out.new h2).setQ (k := j) (by rw [lsr]; exact hjk) (layR zs n W H j))
              rw [← SN.out] at HS
              obtain ⟨o0, o1, o2, o3⟩ := (⟨HRq.out.c (j * 4) (by rw [LF.out]; omega), HRq.out.c (j * 4 + 1) (by rw [LF.out]; omega), HRq.out.c (j * 4 + 2) (by rw [LF.out]; omega), HRq.out.c (j * 4 + 3) (by rw [LF.out]; omega)⟩ : _ ∧ _ ∧ _ ∧ _)
              obtain ⟨f0, f1, f2, f3⟩ := (⟨HRq.out.f (j * 4) (by rw [LF.out]; omega), HRq.out.f (j * 4 + 1) (by rw [LF.out]; omega), HRq.out.f (j * 4 + 2) (by rw [LF.out]; omega), HRq.out.f (j * 4 + 3) (by rw [LF.out]; omega)⟩ : _ ∧ _ ∧ _ ∧ _)
              have dS : (S ++ done).length ≤ 40 := by rw [List.length_append, SL.out]; omega
              have jn : (j : Int) < (n : Int) := by omega
              have j0 : (0 : Int) ≤ (j : Int) := by omega
              have rlt := HRq.out.lt
              have ljb := HL.out.nd.lt j hjk
              obtain ⟨dl, hdl⟩ : ∃ dl, done.length = dl := ⟨_, rfl⟩
              have HDL := Lib.hid hdl
              rw [hdl] at p0 p1 p2 p3 hlt ⊢
              obtain ⟨em, hem⟩ : ∃ em, mk - dl = em := ⟨_, rfl⟩
              obtain ⟨ed, hed⟩ : ∃ ed, d2 - dl = ed := ⟨_, rfl⟩
              have e1m : 1 ≤ em := by omega
              have emd : em ≤ ed := by omega
              have e1i : (1 : Int) ≤ (em : Int) := by omega
              have e1j : (0 : Int) < (em : Int) := by omega
              have e1k : 0 < em := by omega
              have e1l : ¬ em = 0 := by omega
              have emi : (em : Int) ≤ (ed : Int) := by omega
              have HEM := Lib.hid (And.intro hem hed)
              rw [hem, hed]
              clear v0 v1 v2 v3 hjm hnx hdl kj hem hed lsr
              simp only [List.head?_cons, pv_some]
              generalize (layR zs n W H j).1 = y0 at *
              generalize (layR zs n W H j).2.1 = y1 at *
              generalize (layR zs n W H j).2.2.1 = y2 at *
              generalize (layR zs n W H j).2.2.2 = y3 at *
              obtain ⟨vq, hvq⟩ : ∃ vq, vq = u6 := ⟨_, rfl⟩
              rw [← hvq] at HO HB1 ⊢
              clear hvq
              have nw : vq.ownBlock ≠ some (w.heap.size + 1) := fun e => by have := HO.out.below e; omega
              have GR := Lib.hid (own_set (own_set (own_set (own_set (World.grownBy.refl wr.drew (some (w.heap.size + 1))) (k := j * 4) (.int .i64 y0)) (k := j * 4 + 1) (.int .i64 y1)) (k := j * 4 + 2) (.int .i64 y2)) (k := j * 4 + 3) (.int .i64 y3))
              have HOX := Lib.hid (((HO.out.new (New.refl wr).drew).kept GR.out (.inr nw)).new ((New.refl _).alloc (.cells #[.pointer (some ⟨nb j, 0, none⟩)] 67)))
              have HSX := Lib.hid ((HS.out wr.drew (New.refl wr).drew).new ((New.refl _).alloc (.cells #[.pointer (some ⟨nb j, 0, none⟩)] 67)))
              have b9n : b9 ≠ w.heap.size + 1 := by omega
              have HBX := Lib.hid ((((((HRb.out.drewN 1).far (p := ⟨w.heap.size + 1, j * 4, none⟩) (fun e => b9n e.symm) (.int .i64 y0)).far (p := ⟨w.heap.size + 1, j * 4 + 1, none⟩) (fun e => b9n e.symm) (.int .i64 y1)).far (p := ⟨w.heap.size + 1, j * 4 + 2, none⟩) (fun e => b9n e.symm) (.int .i64 y2)).far (p := ⟨w.heap.size + 1, j * 4 + 3, none⟩) (fun e => b9n e.symm) (.int .i64 y3)).new ((New.refl _).alloc (.cells #[.pointer (some ⟨nb j, 0, none⟩)] 67)))
              have NX1 := Lib.hid (((((HNw.out.drew.setCell (p := ⟨w.heap.size + 1, j * 4, none⟩) (by simp) (.int .i64 y0)).setCell (p := ⟨w.heap.size + 1, j * 4 + 1, none⟩) (by simp) (.int .i64 y1)).setCell (p := ⟨w.heap.size + 1, j * 4 + 2, none⟩) (by simp) (.int .i64 y2)).setCell (p := ⟨w.heap.size + 1, j * 4 + 3, none⟩) (by simp) (.int .i64 y3)).alloc (.cells #[.pointer (some ⟨nb j, 0, none⟩)] 67))
              have NW2 := Lib.hid nw; have LT9 := Lib.hid HRb.out.lt
              have hlo : lo2 ≤ wr.heap.size := by have h1 := HRb.out.lt; omega
              clear nw HO HRq HRb HNw HS GR b9n
              go_wp2
              go_still_tail 9, (by kernel_rfl)
              change wpList _ _ _ _ _ wr.drew
              go_wp2_with (at_builtin; refine wp_appP rfl _ _ rfl lo2 nb vq (S ++ done) rfl HOX.out wr.heap.size j rfl (by simp [go_sem]) (by omega) (by simp; omega) ?_; intro v6 w6 O6 G6 H6; (have N6 := Lib.hid (new_ownP NX1.out G6 HOX.out (by omega))); (have g13 := GN.out w6 N6.out); (have R6 := Lib.hid (HSX.out.keepR G6 NW2.out)); (have B6 := Lib.hid (HBX.out.keepR G6 HB1.out)); (have V6 : Hid (v6.ownBlock ≠ some b9) := Lib.hid (fun e => by rcases H6 with h1 | h1; exact HB1.out (h1.symm.trans e); rw [h1] at e; simp at e; have := LT9.out; omega)); (replace O6 := Lib.hid O6); clear G6 H6)
              go_roundw
              case rel =>
                by_cases h1 : ed = 1
                · refine ⟨done ++ [j], rest, dl * 4, HK2, rfl, ?_, Lib.hid (fun h2 => ?_), Lib.hid (by rw [← List.append_assoc]; exact O6.out), V6, R6, B6, N6⟩
                  · obtain ⟨h3, h4⟩ := HEM.out
                    rw [List.length_append, HDL.out, List.length_singleton, if_pos h1, show em - 1 = mk - (dl + 1) by omega, show ed - 1 = d2 - (dl + 1) by omega]
                  · obtain ⟨h3, h4⟩ := HEM.out
                    rw [List.length_append, HDL.out, List.length_singleton] at h2
                    omega
                · refine ⟨done ++ [j], rest, dl * 4 + 4, HK2, rfl, ?_, Lib.hid (fun _ => ?_), Lib.hid (by rw [← List.append_assoc]; exact O6.out), V6, R6, B6, N6⟩
                  · obtain ⟨h3, h4⟩ := HEM.out
                    rw [List.length_append, HDL.out, List.length_singleton, if_neg h1, show em - 1 = mk - (dl + 1) by omega, show ed - 1 = d2 - (dl + 1) by omega]
                  · rw [List.length_append, HDL.out, List.length_singleton]; omega
              case measure =>
                have n6 := (HL.out.nd.new N6.out)
                rw [nj]
                cases hh : rest.head? with
                | none => rw [pv_none, upOf_nil]; omega
                | some r =>
                  have h1 := NX.out r hh
                  rw [pv_some, n6.upOf_some h1.2]
                  omega

end Go.Proofs.Ytobnjagmakhgpaa
