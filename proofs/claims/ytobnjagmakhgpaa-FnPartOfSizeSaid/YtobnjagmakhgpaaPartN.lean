/- Plain facts on parts of trees: the boxes directly in a box of a part, and the sizes of its boxes, are those of the tree. No condition. -/
import Derived.Test.YtobnjagmakhgpaaPartW
import Derived.Test.YtobnjagmakhgpaaZI
namespace Go.Proofs.Ytobnjagmakhgpaa
open Go.RowKit

section
variable {zs ys : List Int} {a m n k : Nat}
/-- The boxes directly in a box of a part. -/
theorem shift_kids (h : Shift zs ys a m) (hL : Link zs n) (ha : a < n) (hm : m = en zs n a - a) (hk : k < m) : kidL zs n (a + k) = (kidL ys m k).map (a + ·) := by
  have eb := en_bd (zs := zs) ha
  have hn : n = a + (m + (n - (a + m))) := by omega
  have e1 : (List.range a).filter (fun i => decide (par zs i = ((a + k : Nat) : Int))) = [] := List.filter_eq_nil_iff.2 fun i hi hp => by
    have hi := List.mem_range.1 hi
    have hp := of_decide_eq_true hp
    obtain ⟨_, h2⟩ := hL.not_kid (i := i) (a := a + k) (by omega) hp
    omega
  have e3 : ((List.range (n - (a + m))).map (fun i => a + (m + i))).filter (fun i => decide (par zs i = ((a + k : Nat) : Int))) = [] := List.filter_eq_nil_iff.2 fun i hi hp => by
    obtain ⟨j, hj, rfl⟩ := List.mem_map.1 hi
    have hj := List.mem_range.1 hj
    have hp := of_decide_eq_true hp
    have hak : anc zs a (a + k) = true := (hL.in_iff ha (by omega)).2 ⟨by omega, by omega⟩
    have hai : anc zs a (a + (m + j)) = true := by
      rw [anc_par hp (by omega) (by omega)]; exact hak
    have := (hL.in_iff ha (by omega)).1 hai
    omega
  have e2 : ((List.range m).map (a + ·)).filter (fun i => decide (par zs i = ((a + k : Nat) : Int))) = (kidL ys m k).map (a + ·) := by
    unfold kidL
    rw [List.filter_map]
    congr 1
    refine List.filter_congr fun i hi => ?_
    have hi := List.mem_range.1 hi
    show decide (par zs (a + i) = ((a + k : Nat) : Int)) = decide (par ys i = (k : Int))
    rcases Nat.eq_zero_or_pos i with h0 | h0
    · subst h0
      rw [h.root]
      have hl := h.low
      rw [decide_eq_false (by rw [Nat.add_zero]; omega), decide_eq_false (by omega)]
    · obtain ⟨p, p1, p2, _⟩ := h.par i h0 hi
      rw [p1, p2]
      exact decide_eq_decide.2 ⟨fun h => by omega, fun h => by omega⟩
  unfold kidL at e2 ⊢
  conv => lhs; rw [hn]
  rw [List.range_add, List.range_add, List.map_append, List.map_map, List.filter_append, List.filter_append, e1, e2]
  have e4 : ((fun x => a + x) ∘ fun x => m + x) = fun i => a + (m + i) := rfl
  rw [e4, e3]
  simp
/-- The sizes of the boxes of a part. -/
theorem shift_nat (h : Shift zs ys a m) (hv : vtB n zs = true) (hy : vtB m ys = true) (ha : a < n) (hm : m = en zs n a - a) : ∀ k, k < m → natL ys m k = natL zs n (a + k) := by
  intro k
  generalize hd : m - k = d
  induction d using Nat.strongRecOn generalizing k with
  | ind d ih =>
    intro hk
    have eb := en_bd (zs := zs) ha
    have LZ := link_vt hv; have LY := link_vt hy
    have hkk := shift_kids h LZ ha hm hk
    have hb := fun j h1 h2 => h.box k j hk h1 h2
    have kn := h.knd hk
    rw [nat_step LY hk, nat_step LZ (show a + k < n by omega)]
    have ec : contL ys m k = contL zs n (a + k) := by
      unfold contL
      rw [kn, hb 5 (by omega) (by omega), hb 2 (by omega) (by omega), hb 3 (by omega) (by omega), hkk, List.map_map]
      congr 1
      refine List.map_congr_left fun j hj => ?_
      obtain ⟨hj1, hj2⟩ := kid_mem.1 hj
      obtain ⟨_, hj3⟩ := LY.not_kid hj1 hj2
      exact ih (m - j) (by omega) j rfl hj1
    rw [ec, hb 4 (by omega) (by omega)]
end
end Go.Proofs.Ytobnjagmakhgpaa
