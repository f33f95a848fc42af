/- Plain facts on sizes of trees that differ in one box's style: the boxes behind it keep their sizes; a pad that is 1 greater makes the box 2 larger. No condition. -/
import Derived.Test.YtobnjagmakhgpaaStyV
import Derived.Test.YtobnjagmakhgpaaZG
namespace Go.Proofs.Ytobnjagmakhgpaa
open Go.RowKit

section
variable {zs ys : List Int} {n k a i : Nat}
theorem kid_same (hp : ∀ i, i < n → par ys i = par zs i) (a : Nat) : kidL ys n a = kidL zs n a := by
  unfold kidL
  exact List.filter_congr fun i hi => by rw [hp i (List.mem_range.1 hi)]
theorem cont_same (LZ : Link zs n) (hp : ∀ i, i < n → par ys i = par zs i) (h1 : ys.getD (a * 9 + 1) 0 = zs.getD (a * 9 + 1) 0) (h2 : ys.getD (a * 9 + 2) 0 = zs.getD (a * 9 + 2) 0) (h3 : ys.getD (a * 9 + 3) 0 = zs.getD (a * 9 + 3) 0) (h5 : ys.getD (a * 9 + 5) 0 = zs.getD (a * 9 + 5) 0)
    (hn : ∀ j, a < j → j < n → natL ys n j = natL zs n j) : contL ys n a = contL zs n a := by
  unfold contL knd
  rw [h1, h2, h3, h5, kid_same hp]
  congr 1
  exact List.map_congr_left fun j hj => by
    obtain ⟨_, h2, h3⟩ := LZ.kid_in hj
    exact hn j h2 h3
/-- Where two trees differ in boxes before k alone, the boxes from k on have the same sizes. -/
theorem nat_same (LZ : Link zs n) (LY : Link ys n) (hp : ∀ i, i < n → par ys i = par zs i) (hs : ∀ i j, k ≤ i → i < n → 1 ≤ j → j ≤ 5 → ys.getD (i * 9 + j) 0 = zs.getD (i * 9 + j) 0) : ∀ i, k ≤ i → i < n → natL ys n i = natL zs n i := by
  intro i
  generalize hd : n - i = d
  induction d using Nat.strongRecOn generalizing i with
  | ind d ih =>
    intro hk hi
    rw [nat_step LY hi, nat_step LZ hi, hs i 4 hk hi (by omega) (by omega)]
    rw [cont_same LZ hp (hs i 1 hk hi (by omega) (by omega)) (hs i 2 hk hi (by omega) (by omega)) (hs i 3 hk hi (by omega) (by omega)) (hs i 5 hk hi (by omega) (by omega)) fun j h1 h2 => ih (n - j) (by omega) j rfl (by omega) h2]
theorem nat_pad {b6 b7 b8 : Int} (hz : zs.length = n * 9) (hv : vtB n zs = true) (ha : a < n) (hy : vtB n (styL zs a (par zs a) (zs.getD (a * 9 + 1) 0) (zs.getD (a * 9 + 2) 0) (zs.getD (a * 9 + 3) 0) (zs.getD (a * 9 + 4) 0 + 1) (zs.getD (a * 9 + 5) 0) b6 b7 b8) = true) :
    natL (styL zs a (par zs a) (zs.getD (a * 9 + 1) 0) (zs.getD (a * 9 + 2) 0) (zs.getD (a * 9 + 3) 0) (zs.getD (a * 9 + 4) 0 + 1) (zs.getD (a * 9 + 5) 0) b6 b7 b8) n a = ((natL zs n a).1 + 2, (natL zs n a).2 + 2) := by
  have LZ := link_vt hv; have LY := link_vt hy
  have hp : ∀ i, i < n → par (styL zs a (par zs a) (zs.getD (a * 9 + 1) 0) (zs.getD (a * 9 + 2) 0) (zs.getD (a * 9 + 3) 0) (zs.getD (a * 9 + 4) 0 + 1) (zs.getD (a * 9 + 5) 0) b6 b7 b8) i = par zs i := fun i hi => sty_parent hz hi
  have f : ∀ j, 1 ≤ j → j ≤ 5 → j ≠ 4 → (styL zs a (par zs a) (zs.getD (a * 9 + 1) 0) (zs.getD (a * 9 + 2) 0) (zs.getD (a * 9 + 3) 0) (zs.getD (a * 9 + 4) 0 + 1) (zs.getD (a * 9 + 5) 0) b6 b7 b8).getD (a * 9 + j) 0 = zs.getD (a * 9 + j) 0 := fun j h1 h2 h3 => by
    rw [sty_at hz (a * 9 + j) (by omega)]
    repeat' split
    all_goals first | rfl | (rename_i h; rw [← h]; done) | (exfalso; omega)
  have f4 : (styL zs a (par zs a) (zs.getD (a * 9 + 1) 0) (zs.getD (a * 9 + 2) 0) (zs.getD (a * 9 + 3) 0) (zs.getD (a * 9 + 4) 0 + 1) (zs.getD (a * 9 + 5) 0) b6 b7 b8).getD (a * 9 + 4) 0 = zs.getD (a * 9 + 4) 0 + 1 := by
    rw [sty_at hz (a * 9 + 4) (by omega)]
    repeat rw [if_neg (by omega)]
    exact if_pos rfl
  have ns := nat_same (k := a + 1) LZ LY hp (fun i j hk hi h1 h2 => sty_else hz (by omega) (by omega))
  rw [nat_step LY ha, nat_step LZ ha, f4, cont_same LZ hp (f 1 (by omega) (by omega) (by omega)) (f 2 (by omega) (by omega) (by omega)) (f 3 (by omega) (by omega) (by omega)) (f 5 (by omega) (by omega) (by omega)) fun j h1 h2 => ns j (by omega) h2]
  refine Prod.ext ?_ ?_ <;> (dsimp only; omega)
end
end Go.Proofs.Ytobnjagmakhgpaa
