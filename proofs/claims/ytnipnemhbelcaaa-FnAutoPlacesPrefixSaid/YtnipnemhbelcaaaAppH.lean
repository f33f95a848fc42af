/- An append in a drawing region, and where the list lies behind it; a list of the call's own beside another one that turns. Conditions: the lists are short. -/
import Derived.Test.YtnipnemhbelcaaaApp
namespace Go.Proofs.Ytnipnemhbelcaaa
open Go.RowKit

theorem step_app2b {w : World} {ops : Array Oper} {o : Oper} {a : Act} {K : Act → World → Prop} {Q : Exit → Act → World → Prop} {E : Prop} (hgd : o.guard = none) (s x : Operand)
    (ho : o.op = .call { callee := .builtin .append, args := #[s, x], argTypes := #[36, 36] }) (lo : Nat) (v : Value) (zs : List Int) (hs : a.eval s = v) (hown : Own lo w v zs)
    (g : Nat) (z : Int) (hx : a.eval x = .slice (some ⟨g, 0, none⟩) 1 1) (hr : Ints w (some ⟨g, 0, none⟩) 1 [z]) (hn : zs.length + 1 ≤ 1000000) (hlo : lo ≤ w.heap.size)
    (h : ∀ v' w', Own lo w' v' (zs ++ [z]) → w.grownBy w' v.ownBlock → (v'.ownBlock = v.ownBlock ∨ v'.ownBlock = some w.heap.size) → K (a.put o.dst v') w') :
    if Region.wanted o (yielded ops a.tmps) = true then Oper.wp Try.prog o a w K Q else E := by
  have hw : Region.wanted o (yielded ops a.tmps) = true := by simp [Region.wanted, hgd]
  rw [if_pos hw]
  obtain ⟨v', w', hrun, h2, h3, h4⟩ := run_app2 w o.type lo v zs hown g z hr hn hlo
  unfold Oper.wp execOp
  simp only [ho, resolve, invoke, builtin, Sem.run_bind, Sem.run_pure, Result.andThen_ok, List.map_toArray, List.map_cons, List.map_nil, hs, hx, hrun]
  exact h v' w' h2 h3 h4
theorem own_ne {a b : Option Nat} {n g : Nat} (h : a = b ∨ a = some n) (hb : b ≠ some g) (hn : n ≠ g) : a ≠ some g := by
  rcases h with h | h
  · rw [h]; exact hb
  · rw [h]; exact fun e => hn (Option.some.inj e)
theorem Own.apart {lo : Nat} {w w' : World} {v : Value} {zs : List Int} {r : Option Nat} (h : Own lo w v zs) (k : w.grownBy w' r) (hr : ∀ g, v.ownBlock = some g → r ≠ some g) : Own lo w' v zs := by
  refine ⟨h.1, ?_⟩
  rcases h.2 with hn | ⟨g, cap, cur, hv, hg, hh, hc, hm, hs, ht⟩
  · exact .inl hn
  · have hlt : g < w.heap.size := by
      rcases Nat.lt_or_ge g w.heap.size with h1 | h1
      · exact h1
      · rw [Array.getElem?_eq_none h1] at hh; cases hh
    exact .inr ⟨g, cap, cur, hv, hg, (k.block g hlt (fun e => hr g (by rw [hv]; rfl) e.symm)).trans hh, hc, hm, hs, ht⟩
theorem Row.keep {w w' : World} {g : Nat} {zs : List Int} {r : Option Nat} (h : Row w g zs) (k : w.grownBy w' r) (hr : r ≠ some g) : Row w' g zs :=
  ⟨Nat.lt_of_lt_of_le h.lt k.size, fun i hi => (World.cell?_of_block (k.block g h.lt (fun e => hr e.symm))).trans (h.c i hi), fun i hi => (World.frozen?_of_block (w := w) (k.block g h.lt (fun e => hr e.symm))).trans (h.f i hi)⟩
/-- An answer that is a row of its own, in its room. -/
def AnsK (w : World) (zs : List Int) (e : Ending) (w' : World) : Prop :=
  ∃ (A : Option Addr) (n c : Nat), e = .returned (.slice A n c) ∧ zs.length = n ∧ n ≤ c ∧ Res w.heap.size w'.heap.size w' A zs ∧ New w w'
theorem AnsK.ans {w w' : World} {zs : List Int} {e : Ending} (h : AnsK w zs e w') : Ans w zs e w' := by
  obtain ⟨A, n, c, h1, h2, _, h3, h4⟩ := h
  exact ⟨A, n, c, h1, h2, h3, h4⟩
theorem AnsK.nil_ {w w' : World} {e : Ending} (he : e = .returned (.slice none 0 0)) (hN : New w w') : AnsK w [] e w' := ⟨_, 0, 0, he, rfl, Nat.le_refl _, Res.nil _ _ _, hN⟩
theorem AnsK.later {w w1 w' : World} {zs : List Int} {e : Ending} (h : AnsK w1 zs e w') (hN : New w w1) : AnsK w zs e w' := by
  obtain ⟨A, n, c, h1, h2, h3, h4, h5⟩ := h
  have := hN.le
  exact ⟨A, n, c, h1, h2, h3, ⟨h4.1, fun h0 => by obtain ⟨g, e, h6, h7, h8⟩ := h4.2 h0; exact ⟨g, e, by omega, h7, h8⟩⟩, hN.trans h5⟩
theorem Ints.part {w : World} {b off n f m : Nat} {xs : List Int} (h : Ints w (some ⟨b, off, none⟩) n xs) (hk : f + m ≤ n) : Ints w (some ⟨b, off + f, none⟩) m ((xs.drop f).take m) := by
  have hl := h.len
  refine ⟨by rw [List.length_take, List.length_drop]; omega, fun h0 => ?_⟩
  obtain ⟨b', off', e, hb, hc⟩ := h.at_ (by omega)
  simp only [Option.some.injEq, Addr.mk.injEq, and_true] at e
  obtain ⟨rfl, rfl⟩ := e
  refine ⟨b, off + f, rfl, hb, fun i hi => ?_⟩
  rw [List.getD_eq_getElem?_getD, List.getElem?_take_of_lt hi, List.getElem?_drop, ← List.getD_eq_getElem?_getD, Nat.add_assoc]
  exact hc (f + i) (by omega)
theorem Ints.first {w : World} {A : Option Addr} {n k : Nat} {xs : List Int} (h : Ints w A n xs) (hk : k ≤ n) : Ints w A k (xs.take k) := by
  refine ⟨by rw [List.length_take, h.len]; omega, fun h0 => ?_⟩
  obtain ⟨b, off, e, hb, hc⟩ := h.at_ (by omega)
  refine ⟨b, off, e, hb, fun i hi => ?_⟩
  rw [List.getD_eq_getElem?_getD, List.getElem?_take_of_lt hi, ← List.getD_eq_getElem?_getD]
  exact hc i (by omega)
end Go.Proofs.Ytnipnemhbelcaaa
