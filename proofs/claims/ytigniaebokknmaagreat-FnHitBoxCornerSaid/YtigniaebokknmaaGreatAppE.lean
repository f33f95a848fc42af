/- A list that begins as an empty one laid ahead of other blocks, and then lies behind them. Conditions: the list is short. -/
import Derived.Test.YtigniaebokknmaaGreatZC
namespace Go.Proofs.YtigniaebokknmaaGreat
open Go.RowKit

theorem Own.lower {lo lo' : Nat} {w : World} {v : Value} {zs : List Int} (h : Own lo w v zs) (hl : lo' ≤ lo) : Own lo' w v zs := by
  refine ⟨h.1, ?_⟩
  rcases h.2 with hn | ⟨g, cap, cur, hv, hg, hh, hc, hm, hs, ht⟩
  · exact .inl hn
  · exact .inr ⟨g, cap, cur, hv, Nat.le_trans hl hg, hh, hc, hm, hs, ht⟩
/-- The empty list that was laid first, or a list of the call's own behind lo. -/
def OwnE (lo g0 : Nat) (w : World) (v : Value) (zs : List Int) : Prop := (v = .slice (some ⟨g0, 0, none⟩) 0 0 ∧ zs = []) ∨ Own lo w v zs
theorem OwnE.new {lo g0 : Nat} {w w' : World} {v : Value} {zs : List Int} (h : OwnE lo g0 w v zs) (k : New w w') : OwnE lo g0 w' v zs := h.imp id fun h => h.new k
theorem OwnE.answ {lo g0 : Nat} {w w1 : World} {v : Value} {zs : List Int} (h : OwnE lo g0 w1 v zs) (hl : w.heap.size ≤ lo) (hN : New w w1) : Ans w zs (.returned v) w1 := by
  rcases h with ⟨rfl, rfl⟩ | h
  · exact ⟨_, 0, 0, rfl, rfl, ⟨Nat.le_refl _, fun h => absurd h (by simp)⟩, hN⟩
  · obtain ⟨A, c, rfl, _, Z1, Z2⟩ := h.res
    exact ⟨A, _, c, rfl, rfl, ⟨Z1, fun hz => by obtain ⟨g, e, k1, k2, hR⟩ := Z2 hz; exact ⟨g, e, by omega, k2, hR⟩⟩, hN⟩
theorem OwnE.slice {lo g0 : Nat} {w1 : World} {v : Value} {zs : List Int} (h : OwnE lo g0 w1 v zs) : ∃ A n c, v = .slice A n c := by
  rcases h with ⟨rfl, rfl⟩ | h
  · exact ⟨_, _, _, rfl⟩
  · obtain ⟨A, c, rfl, _⟩ := h.res
    exact ⟨_, _, _, rfl⟩
theorem wp_appE {w : World} {ops : Array Oper} {rest : List Oper} {o : Oper} {a : Act} {Q : Exit → Act → World → Prop} (hgd : o.guard = none) (s x : Operand)
    (ho : o.op = .call { callee := .builtin .append, args := #[s, x], argTypes := #[28, 28] }) (lo g0 : Nat) (v : Value) (zs : List Int) (hs : a.eval s = v) (hown : OwnE lo g0 w v zs)
    (w0 : World) (hN : New w0 w) (hl : w0.heap.size ≤ lo) (hlo : lo ≤ w.heap.size)
    (g : Nat) (z : Int) (hx : a.eval x = .slice (some ⟨g, 0, none⟩) 1 1) (hr : Ints w (some ⟨g, 0, none⟩) 1 [z]) (hn : zs.length + 1 ≤ 100000)
    (h : ∀ v' w', Own lo w' v' (zs ++ [z]) → New w0 w' → wpList Tryz.prog ops Q rest (a.put o.dst v') w') : wpList Tryz.prog ops Q (o :: rest) a w := by
  rcases hown with ⟨rfl, rfl⟩ | hown
  · refine wp_grow hgd s x ho g0 0 [] hs ⟨rfl, fun h => absurd h (Nat.lt_irrefl _)⟩ g z hx hr (by omega) fun v' w' h1 h2 => h v' w' (h1.lower hlo) (hN.trans h2)
  · exact wp_app hgd s x ho lo v zs hs hown _ 1 1 [z] hx hr (by omega) hlo fun v' w' h1 h2 => h v' w' h1 (new_own hN h2 hown hl)
end Go.Proofs.YtigniaebokknmaaGreat
