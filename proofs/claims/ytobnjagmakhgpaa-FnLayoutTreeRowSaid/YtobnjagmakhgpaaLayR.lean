/- Plain facts on layouts of rows: the widths of a row's boxes are flexible sizes of what they need. No condition. -/
import Derived.Test.YtobnjagmakhgpaaYC
import Derived.Test.YtobnjagmakhgpaaYE
namespace Go.Proofs.Ytobnjagmakhgpaa
open Go.RowKit

theorem ext_row {xs ys : List Int} (hl : xs.length = ys.length) (h : ∀ i, i < xs.length → xs.getD i 0 = ys.getD i 0) : xs = ys := by
  apply List.ext_getElem hl
  intro i h1 h2
  have := h i h1
  simpa [h1, h2] using this
section
variable {zs : List Int} {n : Nat} {W H : Int}
/-- The widths of the boxes of the first box, if it is a row. -/
theorem lay_row (hv : vtB n zs = true) (hW : 0 ≤ W ∧ W ≤ 10000) (h2 : knd zs 0 = 2) (h1 : 1 < n) :
    1 ≤ (kidL zs n 0).length ∧ (kidL zs n 0).map (fun j => (layR zs n W H j).2.2.1) = flexA (kidL zs n 0).length (flxL (fun j => (natL zs n j).1) zs (kidL zs n 0)) (mx 0 (mx 0 (W - 2 * zs.getD 4 0) - zs.getD 5 0 * (((kidL zs n 0).length : Int) - 1))) := by
  have hL := link_vt hv
  have hk : 1 ≤ (kidL zs n 0).length := by
    obtain ⟨p, p1, p2, _⟩ := hL.up 1 (by omega) h1
    obtain rfl : p = 0 := by omega
    have hm : 1 ∈ kidL zs n 0 := kid_mem.2 ⟨h1, p1⟩
    exact List.length_pos_of_mem hm
  refine ⟨hk, ?_⟩
  have e0 : layR zs n W H 0 = (0, 0, W, H) := lay_top (by have := hL.root (by omega); omega)
  have sp : (inQ zs 0 (0, 0, W, H)).2.2.1 = mx 0 (W - 2 * zs.getD 4 0) := rfl
  have lp := kids_in (g := fun j => (natL zs n j).1) hv (show 0 < n by omega) (by intro e; rw [e] at hk; simp at hk) (.inl fun _ => rfl)
  have pb := pad_bd hv (show 0 < n by omega)
  have sb : 0 ≤ (inQ zs 0 (0, 0, W, H)).2.2.1 ∧ (inQ zs 0 (0, 0, W, H)).2.2.1 ≤ 10000 := by
    rw [sp]
    have : 0 ≤ zs.getD (0 * 9 + 4) 0 := pb.1
    rw [Nat.zero_mul, Nat.zero_add] at this
    unfold mx; omega
  have el : ((kidL zs n 0).length : Int) - 1 = mx 0 (((kidL zs n 0).length : Int) - 1) := by unfold mx; omega
  have es : flexA (kidL zs n 0).length (flxL (fun j => (natL zs n j).1) zs (kidL zs n 0)) (mx 0 (mx 0 (W - 2 * zs.getD 4 0) - zs.getD 5 0 * (((kidL zs n 0).length : Int) - 1))) = szL (fun j => (natL zs n j).1) zs (kidL zs n 0) (zs.getD (0 * 9 + 5) 0) (inQ zs 0 (0, 0, W, H)).2.2.1 := by
    unfold szL
    rw [sp, ← el]
  rw [es]
  apply ext_row
  · rw [List.length_map, lp.sz_len sb]
  · intro t ht
    rw [List.length_map] at ht
    have e1 : ((kidL zs n 0).map (fun j => (layR zs n W H j).2.2.1)).getD t 0 = (layR zs n W H ((kidL zs n 0).getD t 0)).2.2.1 := by simp [ht]
    have e2 : plcL zs n 0 (0, 0, W, H) = lineL (fun j => (natL zs n j).1) zs (kidL zs n 0) (zs.getD (0 * 9 + 5) 0) (zs.getD (0 * 9 + 8) 0) (inQ zs 0 (0, 0, W, H)) := if_pos h2
    rw [e1, lay_plc hL ht, e0, e2, lineL_at ht]
theorem flxL_step {g : Nat → Int} {l : List Nat} {k : Nat} (hk : k < l.length) : flxL g zs (l.take (k + 1)) = flxL g zs (l.take k) ++ [g (l.getD k 0), 0, 10000, zs.getD (l.getD k 0 * 9 + 6) 0, zs.getD (l.getD k 0 * 9 + 7) 0] := by
  have e : l.take (k + 1) = l.take k ++ [l.getD k 0] := by rw [List.take_succ_eq_append_getElem hk]; simp [hk]
  rw [e, flxL_snoc]
theorem map_step {f : Nat → Int} {l : List Nat} {k : Nat} (hk : k < l.length) : (l.take (k + 1)).map f = (l.take k).map f ++ [f (l.getD k 0)] := by
  have e : l.take (k + 1) = l.take k ++ [l.getD k 0] := by rw [List.take_succ_eq_append_getElem hk]; simp [hk]
  rw [e, List.map_append]; rfl
end
end Go.Proofs.Ytobnjagmakhgpaa
