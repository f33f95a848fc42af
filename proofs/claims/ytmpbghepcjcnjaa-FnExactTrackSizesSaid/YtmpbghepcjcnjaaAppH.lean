/- An append in a drawing region, and where the list lies behind it; a list of the call's own beside another one that turns. Conditions: the lists are short. -/
import Derived.Test.YtmpbghepcjcnjaaApp
namespace Go.Proofs.Ytmpbghepcjcnjaa
open Go.RowKit

theorem step_app2b {w : World} {ops : Array Oper} {o : Oper} {a : Act} {K : Act → World → Prop} {Q : Exit → Act → World → Prop} {E : Prop} (hgd : o.guard = none) (s x : Operand)
    (ho : o.op = .call { callee := .builtin .append, args := #[s, x], argTypes := #[29, 29] }) (lo : Nat) (v : Value) (zs : List Int) (hs : a.eval s = v) (hown : Own lo w v zs)
    (g : Nat) (z : Int) (hx : a.eval x = .slice (some ⟨g, 0, none⟩) 1 1) (hr : Ints w (some ⟨g, 0, none⟩) 1 [z]) (hn : zs.length + 1 ≤ 1000000) (hlo : lo ≤ w.heap.size)
    (h : ∀ v' w', Own lo w' v' (zs ++ [z]) → w.grownBy w' v.ownBlock → (v'.ownBlock = v.ownBlock ∨ v'.ownBlock = some w.heap.size) → K (a.put o.dst v') w') :
    if Region.wanted o (yielded ops a.tmps) = true then Oper.wp Try.prog o a w K Q else E := by
  have hw : Region.wanted o (yielded ops a.tmps) = true := by simp [Region.wanted, hgd]
  rw [if_pos hw]
  obtain ⟨v', w', hrun, h2, h3, h4⟩ := run_app2 w o.type lo v zs hown g z hr hn hlo
  unfold Oper.wp execOp
  simp only [ho, resolve, invoke, builtin, Sem.run_bind, Sem.run_pure, Result.andThen_ok, List.map_toArray, List.map_cons, List.map_nil, hs, hx, hrun]
  exact h v' w' h2 h3 h4
theorem Own.apart {lo : Nat} {w w' : World} {v : Value} {zs : List Int} {r : Option Nat} (h : Own lo w v zs) (k : w.grownBy w' r) (hr : ∀ g, v.ownBlock = some g → r ≠ some g) : Own lo w' v zs := by
  refine ⟨h.1, ?_⟩
  rcases h.2 with hn | ⟨g, cap, cur, hv, hg, hh, hc, hm, hs, ht⟩
  · exact .inl hn
  · have hlt : g < w.heap.size := by
      rcases Nat.lt_or_ge g w.heap.size with h1 | h1
      · exact h1
      · rw [Array.getElem?_eq_none h1] at hh; cases hh
    exact .inr ⟨g, cap, cur, hv, hg, (k.block g hlt (fun e => hr g (by rw [hv]; rfl) e.symm)).trans hh, hc, hm, hs, ht⟩
theorem Row.keep {w w' : World} {g : Nat} {zs : List Int} {r : Option Nat} (h : Row w g zs) (k : w.grownBy w' r) (hr : r ≠ some g) : Row w' g zs :=
  ⟨Nat.lt_of_lt_of_le h.lt k.size, fun i hi => (World.cell?_of_block (k.block g h.lt (fun e => hr e.symm))).trans (h.c i hi), fun i hi => (World.frozen?_of_block (w := w) (k.block g h.lt (fun e => hr e.symm))).trans (h.f i hi)⟩
end Go.Proofs.Ytmpbghepcjcnjaa
