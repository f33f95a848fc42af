/- Plain facts on frames, for the laws: how many frames are needed. No condition. -/
import Derived.Test.YtehhdjkdncpjcaaFrameY
namespace Go.Proofs.Ytehhdjkdncpjcaa
open Go.RowKit

theorem need_up {s b : Int} (hb : 1 ≤ b) : s ≤ (s + b - 1) / b * b := by
  have h1 := Int.emod_lt_of_pos (s + b - 1) (show 0 < b by omega)
  have h2 := Int.mul_ediv_add_emod (s + b - 1) b
  rw [Int.mul_comm] at h2
  omega
theorem need_low {s b : Int} (hb : 1 ≤ b) : (s + b - 1) / b * b ≤ s + b - 1 := Int.ediv_mul_le _ (by omega)
theorem need_mono {s b : Int} (hs : 0 ≤ s) (hb : 1 ≤ b) : (s + (b + 1) - 1) / (b + 1) ≤ (s + b - 1) / b := by
  have h1 := need_up (s := s) hb
  have v0 : 0 ≤ (s + b - 1) / b := Int.ediv_nonneg (by omega) (by omega)
  generalize (s + b - 1) / b = v at *
  have h2 : (s + (b + 1) - 1) / (b + 1) < v + 1 := Int.ediv_lt_of_lt_mul (by omega) (by
    rw [Int.mul_add, Int.add_mul]
    omega)
  omega
theorem need_zero {s b : Int} (hs : 0 ≤ s) (hb : 1 ≤ b) : (s + b - 1) / b = 0 ↔ s = 0 := by
  constructor
  · intro h
    have h1 := need_up (s := s) hb
    rw [h] at h1
    omega
  · intro h
    subst h
    exact Int.ediv_eq_zero_of_lt (by omega) (by omega)
theorem frame_mono {bs : List Int} {a b : Int} (hab : a ≤ b) (m : Nat) (h : 0 ≤ frameOf bs b m) : 0 ≤ frameOf bs a m ∧ frameOf bs a m ≤ frameOf bs b m := by
  rcases frameOf_cases (bs := bs) b m with ⟨e, _⟩ | ⟨k, hk, e, _, hk2⟩
  · omega
  · rcases frameOf_cases (bs := bs) a m with ⟨e', h'⟩ | ⟨k', hk', e', h', _⟩
    · have := h' k hk
      omega
    · have : ¬ k < k' := fun hlt => by
        have := h' k hlt
        omega
      omega
theorem done_mono {cs bs : List Int} (hc : Jobs cs) {i : Nat} (hi : i + 1 < cs.length) (h : 0 ≤ (doneL cs bs).getD (i + 1) 0) : 0 ≤ (doneL cs bs).getD i 0 ∧ (doneL cs bs).getD i 0 ≤ (doneL cs bs).getD (i + 1) 0 := by
  rw [doneL_at hi] at h ⊢
  rw [doneL_at (show i < cs.length by omega)]
  exact frame_mono (hc.mono (by omega)) _ h
theorem done_bd {cs bs : List Int} (hb : Jobs bs) (i : Nat) : -1 ≤ (doneL cs bs).getD i 0 ∧ (doneL cs bs).getD i 0 ≤ 12 := by
  by_cases hi : i < cs.length
  · rw [doneL_at hi]
    have := frameOf_bd bs (cumS cs (i + 1)) bs.length
    have := hb.len
    omega
  · have e : (doneL cs bs).getD i 0 = 0 := by
      rw [List.getD_eq_getElem?_getD, List.getElem?_eq_none (by rw [doneL_len]; omega)]
      rfl
    omega
end Go.Proofs.Ytehhdjkdncpjcaa
