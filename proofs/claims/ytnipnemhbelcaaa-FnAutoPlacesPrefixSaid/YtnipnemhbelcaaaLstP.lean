/- Lists of pairs of numbers, each pair a slice of its own: read, compared, marked. Conditions: the lists can be read, or lie between two marks. -/
import Derived.Test.YtnipnemhbelcaaaSts
namespace Go.Proofs.Ytnipnemhbelcaaa
open Go.RowKit

/-- A list of n slices in block g, the slice i of two numbers in block h i; all between two marks; zs: the numbers, pair by pair. -/
structure PrG (lo hi : Nat) (w : World) (g : Nat) (h : Nat → Nat) (n : Nat) (zs : List Int) : Prop where
  g0 : lo ≤ g
  g1 : g < hi
  c : ∀ i, i < n → w.cell? ⟨g, i, none⟩ = some (.slice (some ⟨h i, 0, none⟩) 2 2)
  h0 : ∀ i, i < n → lo ≤ h i
  h1 : ∀ i, i < n → h i < hi
  hg : ∀ i, i < n → h i ≠ g
  inj : ∀ i j, i < n → j < n → h i = h j → i = j
  r : ∀ i, i < n → Row w (h i) [zs.getD (i * 2) 0, zs.getD (i * 2 + 1) 0]
def Prs (lo hi : Nat) (w : World) (A : Option Addr) (n : Nat) (zs : List Int) : Prop := hi ≤ w.heap.size ∧ (0 < n → ∃ g h, A = some ⟨g, 0, none⟩ ∧ PrG lo hi w g h n zs)
section
variable {lo hi lo' hi' n g : Nat} {h : Nat → Nat} {w w1 : World} {A : Option Addr} {zs : List Int}
theorem PrG.chg (p : PrG lo hi w g h n zs) (hl : hi ≤ w.heap.size) (k : Chg lo' hi' w w1) (hd : hi ≤ lo' ∨ hi' ≤ lo) : PrG lo hi w1 g h n zs :=
  ⟨p.g0, p.g1, fun i hi => (World.cell?_of_block (k.block g (by have := p.g1; omega) (by have := p.g0; have := p.g1; omega))).trans (p.c i hi), p.h0, p.h1, p.hg, p.inj,
    fun i hi => (p.r i hi).chg k (by have := p.h0 i hi; have := p.h1 i hi; omega)⟩
theorem Prs.chg (p : Prs lo hi w A n zs) (k : Chg lo' hi' w w1) (hd : hi ≤ lo' ∨ hi' ≤ lo) : Prs lo hi w1 A n zs :=
  ⟨Nat.le_trans p.1 k.size, fun h0 => by obtain ⟨g, h, e, q⟩ := p.2 h0; exact ⟨g, h, e, q.chg p.1 k hd⟩⟩
theorem Prs.new (p : Prs lo hi w A n zs) (k : New w w1) : Prs lo hi w1 A n zs :=
  ⟨Nat.le_trans p.1 k.size, fun h0 => by obtain ⟨g, h, e, q⟩ := p.2 h0; exact ⟨g, h, e, q.chg p.1 (k.chg w.heap.size w.heap.size) (Or.inl p.1)⟩⟩
theorem Prs.le (p : Prs lo hi w A n zs) : hi ≤ w.heap.size := p.1
theorem PrG.pair (p : PrG lo hi w g h n zs) {i : Nat} (hi : i < n) (hN : New w w1) : Ints w1 (some ⟨h i, 0, none⟩) 2 [zs.getD (i * 2) 0, zs.getD (i * 2 + 1) 0] := ((p.r i hi).new hN).ints
end
/-- An answer that is a list of pairs of its own. -/
def AnsP (w : World) (zs : List Int) (e : Ending) (w' : World) : Prop :=
  ∃ (A : Option Addr) (n c : Nat), e = .returned (.slice A n c) ∧ zs.length = n * 2 ∧ Prs w.heap.size w'.heap.size w' A n zs ∧ New w w'
theorem AnsP.none_ {w w' : World} {e : Ending} (he : e = .returned (.slice none 0 0)) (hN : New w w') : AnsP w [] e w' := ⟨_, 0, 0, he, rfl, ⟨Nat.le_refl _, fun h => absurd h (by omega)⟩, hN⟩
theorem markTo_get (k0 : Int) (k i : Nat) (zs : List Int) : (markTo k0 k zs).getD i 0 = if i < k then k0 + (i : Int) else zs.getD i 0 := by
  unfold markTo
  rw [List.getD_eq_getElem?_getD]
  split
  · next h => rw [List.getElem?_append_left (by rw [marks_len]; exact h), ← List.getD_eq_getElem?_getD, marks_at _ _ _ h]
  · next h => rw [List.getElem?_append_right (by rw [marks_len]; omega), marks_len, List.getElem?_drop, ← List.getD_eq_getElem?_getD, show k + (i - k) = i by omega]
theorem marks_two (k : Int) : marks k 2 = [k + (0 : Nat), k + (1 : Nat)] := rfl
theorem PrG.mark {lo hi : Nat} {w w' : World} {g n k : Nat} {h : Nat → Nat} {zs : List Int} {k0 : Int} (p : PrG lo hi w g h n (markTo k0 (k * 2) zs)) (hl : hi ≤ w.heap.size) (hk : k < n) (hR : Row w' (h k) (marks (k0 + (k : Int) * 2) 2)) (hG : w.grownBy w' (some (h k))) : PrG lo hi w' g h n (markTo k0 ((k + 1) * 2) zs) := by
  refine ⟨p.g0, p.g1, fun i hi => (World.cell?_of_block (hG.block g (by have := p.g1; omega) (fun e => p.hg k hk (Option.some.inj e).symm))).trans (p.c i hi), p.h0, p.h1, p.hg, p.inj, fun i hi => ?_⟩
  by_cases e : i = k
  · subst e
    rw [markTo_get, if_pos (by omega), markTo_get, if_pos (by omega)]
    rw [marks_two] at hR
    rw [show k0 + ((i * 2 : Nat) : Int) = k0 + (i : Int) * 2 + ((0 : Nat) : Int) by omega, show k0 + ((i * 2 + 1 : Nat) : Int) = k0 + (i : Int) * 2 + ((1 : Nat) : Int) by omega]
    exact hR
  · have r := p.r i hi
    rw [markTo_get, markTo_get] at r
    rw [markTo_get, markTo_get]
    have hne : h i ≠ h k := fun e2 => e (p.inj i k hi hk e2)
    have r2 : Row w' (h i) _ := ⟨Nat.lt_of_lt_of_le r.lt hG.size, fun j hj => (World.cell?_of_block (hG.block _ r.lt (fun e => hne (Option.some.inj e)))).trans (r.c j hj), fun j hj => (World.frozen?_of_block (w := w) (hG.block _ r.lt (fun e => hne (Option.some.inj e)))).trans (r.f j hj)⟩
    by_cases hik : i < k
    · rw [if_pos (by omega), if_pos (by omega)] at r2
      rw [if_pos (by omega), if_pos (by omega)]
      exact r2
    · rw [if_neg (by omega), if_neg (by omega)] at r2
      rw [if_neg (by omega), if_neg (by omega)]
      exact r2
end Go.Proofs.Ytnipnemhbelcaaa
