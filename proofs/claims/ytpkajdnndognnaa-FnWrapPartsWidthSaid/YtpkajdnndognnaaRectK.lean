/- A list of rectangles of the call's own beside another one that turns; appends that say where the list lies. Conditions: the lists are short. -/
import Derived.Test.YtpkajdnndognnaaRectA
namespace Go.Proofs.Ytpkajdnndognnaa
open Go.RowKit

theorem OwnRect.apart {lo n : Nat} {w w' : World} {v : Value} {zs : List Int} {r : Option Nat} (h : OwnRect lo w v n zs) (k : w.grownBy w' r) (hr : ∀ g, v.ownBlock = some g → r ≠ some g) : OwnRect lo w' v n zs := by
  refine ⟨⟨h.1.1, ?_⟩, h.2⟩
  rcases h.1.2 with hn | ⟨g, cap, cur, hv, hg, hh, hc, hm, hs, ht⟩
  · exact .inl hn
  · have hlt : g < w.heap.size := by
      rcases Nat.lt_or_ge g w.heap.size with h1 | h1
      · exact h1
      · rw [Array.getElem?_eq_none h1] at hh; cases hh
    exact .inr ⟨g, cap, cur, hv, hg, (k.block g hlt (fun e => hr g (by rw [hv]; rfl) e.symm)).trans hh, hc, hm, hs, ht⟩
theorem OwnRect.lt {lo n : Nat} {w : World} {v : Value} {zs : List Int} (h : OwnRect lo w v n zs) {g : Nat} (hg : v.ownBlock = some g) : g < w.heap.size := by
  rcases h.form with ⟨rfl, rfl, rfl⟩ | ⟨g', c, rfl, hg', hR, _, e⟩
  · simp [Value.ownBlock] at hg
  · rw [e] at hg; have := Option.some.inj hg; subst this; exact hR.lt
theorem wp_appRect2 {w : World} {ops : Array Oper} {rest : List Oper} {o : Oper} {a : Act} {Q : Exit → Act → World → Prop} (hgd : o.guard = none) (s x : Operand)
    (ho : o.op = .call { callee := .builtin .append, args := #[s, x], argTypes := #[24, 24] }) (lo : Nat) (v : Value) (n : Nat) (zs : List Int) (hs : a.eval s = v) (hown : OwnRect lo w v n zs)
    (g : Nat) (y0 y1 y2 y3 : Int) (hx : a.eval x = .slice (some ⟨g, 0, none⟩) 1 1) (hr : Row w g [y0, y1, y2, y3]) (hn : n ≤ 1000) (hlo : lo ≤ w.heap.size)
    (h : ∀ v' w', OwnRect lo w' v' (n + 1) (zs ++ [y0, y1, y2, y3]) → w.grownBy w' v.ownBlock → (v'.ownBlock = v.ownBlock ∨ v'.ownBlock = some w.heap.size) → wpList Try.prog ops Q rest (a.put o.dst v') w') : wpList Try.prog ops Q (o :: rest) a w :=
  wpList_plain hgd fun K hK => by
    obtain ⟨i0, hi, hz0, hz1, hz2⟩ := info_parts info_Rect
    obtain ⟨v', w', hrun, h2, h3, _, h4⟩ := run_append_own_at (P := Try.prog) w lo 24 o.type 44 i0 (.agg #[Value.int .i64 0, Value.int .i64 0, Value.int .i64 0, Value.int .i64 0]) 4 32 Try.underlying24 hi hz0 hz1 hz2 rfl (by decide) v n (zs.map (Value.int .i64)) hown.1 ⟨g, 0, none⟩ 1 1 ([y0, y1, y2, y3].map (Value.int .i64)) rfl (fun j u hu => by
      have hj : j < 4 := by
        rcases Nat.lt_or_ge j 4 with h1 | h1
        · exact h1
        · rw [List.getElem?_eq_none (by simpa using h1)] at hu; cases hu
      have hc := hr.c j (by simpa using hj)
      have e : u = .int .i64 ([y0, y1, y2, y3].getD j 0) := by
        match j, hj with
        | 0, _ => simp at hu; exact hu.symm
        | 1, _ => simp at hu; exact hu.symm
        | 2, _ => simp at hu; exact hu.symm
        | 3, _ => simp at hu; exact hu.symm
        | j + 4, hj => omega
      rw [e, Go.WideShapes.add_plain, Nat.zero_add]
      exact hc) (fun u hu => by
      obtain ⟨z, _, rfl⟩ := List.mem_map.1 hu
      rfl) (by unfold maxLen; omega) (by omega) hlo
    unfold Oper.wp execOp
    simp only [ho, resolve, invoke, builtin, Sem.run_bind, Sem.run_pure, Result.andThen_ok, List.map_toArray, List.map_cons, List.map_nil, hs, hx, hrun]
    refine hK _ _ (h v' w' ⟨?_, by rw [List.length_append, hown.2]; simp; omega⟩ h3 h4)
    rw [List.map_append]
    exact h2
theorem Row.keepR {w w' : World} {g : Nat} {zs : List Int} {r : Option Nat} (h : Row w g zs) (k : w.grownBy w' r) (hr : r ≠ some g) : Row w' g zs :=
  ⟨Nat.lt_of_lt_of_le h.lt k.size, fun i hi => (World.cell?_of_block (k.block g h.lt (fun e => hr e.symm))).trans (h.c i hi), fun i hi => (World.frozen?_of_block (w := w) (k.block g h.lt (fun e => hr e.symm))).trans (h.f i hi)⟩
/-- Two lists that grow, and a reader. -/
structure D2 (w0 : World) (lo a : Nat) (A : Option Addr) (m q : Nat) (w : World) (v1 : Value) (n1 : Nat) (xs : List Int) (v2 : Value) (n2 : Nat) (ys : List Int) : Prop where
  o1 : OwnRect lo w v1 n1 xs
  o2 : OwnRect lo w v2 n2 ys
  ne : ∀ g, v1.ownBlock = some g → v2.ownBlock ≠ some g
  rd : Rdr w a A m q
  gr : w0.grownBy w (some a)
  al : a < lo
  lw : w0.heap.size ≤ lo
  sz : lo ≤ w.heap.size
section
variable {w0 w w' : World} {lo a m q q' n1 n2 : Nat} {A : Option Addr} {v1 v2 v : Value} {xs ys zs : List Int}
theorem D2.alloc (h : D2 w0 lo a A m q w v1 n1 xs v2 n2 ys) (o : Obj) : D2 w0 lo a A m q (w.alloc o) v1 n1 xs v2 n2 ys :=
  ⟨h.o1.alloc o, h.o2.alloc o, h.ne, h.rd.new ((New.refl _).alloc o), only_alloc h.gr o, h.al, h.lw, by have := h.sz; simp; omega⟩
theorem D2.new (h : D2 w0 lo a A m q w v1 n1 xs v2 n2 ys) (k : New w w') : D2 w0 lo a A m q w' v1 n1 xs v2 n2 ys :=
  ⟨h.o1.new k, h.o2.new k, h.ne, h.rd.new k, only_new h.gr k, h.al, h.lw, Nat.le_trans h.sz k.le⟩
theorem D2.call (h : D2 w0 lo a A m q w v1 n1 xs v2 n2 ys) (k : w.grownBy w' (some a)) (r : Rdr w' a A m q') : D2 w0 lo a A m q' w' v1 n1 xs v2 n2 ys :=
  ⟨h.o1.kept k (fun g e => by have := Option.some.inj e; have := h.al; omega), h.o2.kept k (fun g e => by have := Option.some.inj e; have := h.al; omega), h.ne, r, only_trans h.gr k, h.al, h.lw, Nat.le_trans h.sz k.size⟩
theorem D2.far (h : D2 w0 lo a A m q w v1 n1 xs v2 n2 ys) {b : Nat} (h1 : v1.ownBlock ≠ some b) (h2 : v2.ownBlock ≠ some b) (ha : a < b) (hl : w0.heap.size ≤ b) (o : Nat) (u : Value) : D2 w0 lo a A m q (w.setCell ⟨b, o, none⟩ u) v1 n1 xs v2 n2 ys :=
  have k : w.grownBy (w.setCell ⟨b, o, none⟩ u) (some b) := own_set (World.grownBy.refl _ _) u
  ⟨h.o1.apart k (fun g e e2 => h1 (by rw [e, Option.some.inj e2])), h.o2.apart k (fun g e e2 => h2 (by rw [e, Option.some.inj e2])), h.ne, h.rd.set (q := ⟨b, o, none⟩) ha u, only_set h.gr (q := ⟨b, o, none⟩) hl u, h.al, h.lw, Nat.le_trans h.sz k.size⟩
theorem D2.app1 (h : D2 w0 lo a A m q w v1 n1 xs v2 n2 ys) (k : w.grownBy w' v1.ownBlock) (o : OwnRect lo w' v (n1 + 1) zs) (e : v.ownBlock = v1.ownBlock ∨ v.ownBlock = some w.heap.size) : D2 w0 lo a A m q w' v (n1 + 1) zs v2 n2 ys := by
  refine ⟨o, h.o2.apart k (fun g e2 e1 => h.ne g e1 e2), fun g e1 e2 => ?_, h.rd.ownRect k h.o1 h.al, only_ownRect h.gr k h.o1 h.lw, h.al, h.lw, Nat.le_trans h.sz k.size⟩
  rcases e with e | e
  · exact h.ne g (by rw [← e]; exact e1) e2
  · rw [e] at e1; have := Option.some.inj e1; have := h.o2.lt e2; omega
theorem D2.app2 (h : D2 w0 lo a A m q w v1 n1 xs v2 n2 ys) (k : w.grownBy w' v2.ownBlock) (o : OwnRect lo w' v (n2 + 1) zs) (e : v.ownBlock = v2.ownBlock ∨ v.ownBlock = some w.heap.size) : D2 w0 lo a A m q w' v1 n1 xs v (n2 + 1) zs := by
  refine ⟨h.o1.apart k (fun g e1 e2 => h.ne g e1 e2), o, fun g e1 e2 => ?_, h.rd.ownRect k h.o2 h.al, only_ownRect h.gr k h.o2 h.lw, h.al, h.lw, Nat.le_trans h.sz k.size⟩
  rcases e with e | e
  · exact h.ne g e1 (by rw [← e]; exact e2)
  · rw [e] at e2; have := Option.some.inj e2; have := h.o1.lt e1; omega
end
end Go.Proofs.Ytpkajdnndognnaa
