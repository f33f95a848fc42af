/- Plain facts on frames, for the laws: how many frames are needed. No condition. -/
import Derived.Test.YtkaagpfgpacfcaaFrameY
namespace Go.Proofs.Ytkaagpfgpacfcaa
open Go.RowKit

theorem need_up {s b : Int} (hb : 1 ≤ b) : s ≤ (s + b - 1) / b * b := by
  have h1 := Int.emod_lt_of_pos (s + b - 1) (show 0 < b by omega)
  have h2 := Int.mul_ediv_add_emod (s + b - 1) b
  rw [Int.mul_comm] at h2
  omega
theorem need_low {s b : Int} (hb : 1 ≤ b) : (s + b - 1) / b * b ≤ s + b - 1 := Int.ediv_mul_le _ (by omega)
theorem need_mono {s b : Int} (hs : 0 ≤ s) (hb : 1 ≤ b) : (s + (b + 1) - 1) / (b + 1) ≤ (s + b - 1) / b := by
  have h1 := need_up (s := s) hb
  have v0 : 0 ≤ (s + b - 1) / b := Int.ediv_nonneg (by omega) (by omega)
  generalize (s + b - 1) / b = v at *
  have h2 : (s + (b + 1) - 1) / (b + 1) < v + 1 := Int.ediv_lt_of_lt_mul (by omega) (by
    rw [Int.mul_add, Int.add_mul]
    omega)
  omega
theorem need_zero {s b : Int} (hs : 0 ≤ s) (hb : 1 ≤ b) : (s + b - 1) / b = 0 ↔ s = 0 := by
  constructor
  · intro h
    have h1 := need_up (s := s) hb
    rw [h] at h1
    omega
  · intro h
    subst h
    exact Int.ediv_eq_zero_of_lt (by omega) (by omega)
theorem frame_mono {bs : List Int} {a b : Int} (hab : a ≤ b) (m : Nat) (h : 0 ≤ frameOf bs b m) : 0 ≤ frameOf bs a m ∧ frameOf bs a m ≤ frameOf bs b m := by
  rcases frameOf_cases (bs := bs) b m with ⟨e, _⟩ | ⟨k, hk, e, _, hk2⟩
  · omega
  · rcases frameOf_cases (bs := bs) a m with ⟨e', h'⟩ | ⟨k', hk', e', h', _⟩
    · have := h' k hk
      omega
    · have : ¬ k < k' := fun hlt => by
        have := h' k hlt
        omega
      omega
theorem done_mono {cs bs : List Int} (hc : Jobs cs) {i : Nat} (hi : i + 1 < cs.length) (h : 0 ≤ (doneL cs bs).getD (i + 1) 0) : 0 ≤ (doneL cs bs).getD i 0 ∧ (doneL cs bs).getD i 0 ≤ (doneL cs bs).getD (i + 1) 0 := by
  rw [doneL_at hi] at h ⊢
  rw [doneL_at (show i < cs.length by omega)]
  exact frame_mono (hc.mono (by omega)) _ h
theorem done_bd {cs bs : List Int} (hb : Jobs bs) (i : Nat) : -1 ≤ (doneL cs bs).getD i 0 ∧ (doneL cs bs).getD i 0 ≤ 12 := by
  by_cases hi : i < cs.length
  · rw [doneL_at hi]
    have := frameOf_bd bs (cumS cs (i + 1)) bs.length
    have := hb.len
    omega
  · have e : (doneL cs bs).getD i 0 = 0 := by
      rw [List.getD_eq_getElem?_getD, List.getElem?_eq_none (by rw [doneL_len]; omega)]
      rfl
    omega
theorem Jobs.take {xs : List Int} (h : Jobs xs) (k : Nat) : Jobs (xs.take k) := ⟨by rw [List.length_take]; have := h.len; omega, fun z hz => h.in_ z (List.mem_of_mem_take hz)⟩
theorem Jobs.drop {xs : List Int} (h : Jobs xs) (k : Nat) : Jobs (xs.drop k) := ⟨by rw [List.length_drop]; have := h.len; omega, fun z hz => h.in_ z (List.mem_of_mem_drop hz)⟩
theorem Jobs.rep {b : Int} (n : Nat) (hn : n ≤ 12) (h0 : 0 ≤ b) (h1 : b ≤ 1000) : Jobs (List.replicate n b) := ⟨by simpa using hn, fun z hz => by rw [(List.mem_replicate.1 hz).2]; exact ⟨h0, h1⟩⟩
theorem rep_sum (n : Nat) (b : Int) : (List.replicate n b).sum = (n : Int) * b := by
  induction n with
  | zero => simp
  | succ n ih => rw [List.replicate_succ, List.sum_cons, ih, Int.natCast_succ, Int.add_mul]; omega
theorem Ints.take_ {w : World} {b off m k : Nat} {zs : List Int} (h : Ints w (some ⟨b, off, none⟩) m zs) (hk : k ≤ m) : Ints w (some ⟨b, off, none⟩) k (zs.take k) :=
  ⟨by rw [List.length_take, h.len]; omega, fun h0 => by
    obtain ⟨b', off', e, hb, hc⟩ := h.at_ (by omega)
    exact ⟨b', off', e, hb, fun i hi => by rw [hc i (by omega)]; congr 2; simp [List.getD_eq_getElem?_getD, hi]⟩⟩
theorem Ints.drop_ {w : World} {b off m k : Nat} {zs : List Int} (h : Ints w (some ⟨b, off, none⟩) m zs) : Ints w (some ⟨b, off + k, none⟩) (m - k) (zs.drop k) :=
  ⟨by rw [List.length_drop, h.len], fun h0 => by
    obtain ⟨b', off', e, hb, hc⟩ := h.at_ (by omega)
    simp only [Option.some.injEq, Addr.mk.injEq, and_true] at e
    obtain ⟨rfl, rfl⟩ := e
    exact ⟨b, off + k, rfl, hb, fun i hi => by rw [Nat.add_assoc, hc (k + i) (by omega)]; congr 2; simp [List.getD_eq_getElem?_getD]⟩⟩
theorem Ints.nothing {w : World} {A : Option Addr} {zs : List Int} (h : zs.length = 0) : Ints w A 0 zs := ⟨h, fun h0 => absurd h0 (by omega)⟩
end Go.Proofs.Ytkaagpfgpacfcaa
