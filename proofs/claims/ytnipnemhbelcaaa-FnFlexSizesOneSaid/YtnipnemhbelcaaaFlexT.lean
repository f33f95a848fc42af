/- A row of flexible sizes without its last or without its first: its numbers, and that it is still valid. No condition. -/
import Derived.Test.YtnipnemhbelcaaaFlexP
namespace Go.Proofs.Ytnipnemhbelcaaa
open Go.RowKit
theorem getD_take {xs : List Int} {m k : Nat} (h : k < m) : (xs.take m).getD k 0 = xs.getD k 0 := by
  simp [List.getD_eq_getElem?_getD, h]
theorem getD_drop {xs : List Int} {m k : Nat} : (xs.drop m).getD k 0 = xs.getD (m + k) 0 := by
  simp [List.getD_eq_getElem?_getD, List.getElem?_drop]
theorem Sts.head {m n : Nat} {w : World} {A : Option Addr} {zs : List Int} (h : Sts m w A (n + 1) zs) : Sts m w A n (zs.take (n * m)) := by
  have e : (n + 1) * m = n * m + m := by rw [Nat.add_mul, Nat.one_mul]
  refine ⟨by rw [List.length_take, h.len, e]; omega, fun hn => ?_⟩
  obtain ⟨b, off, ha, hb, hc⟩ := h.at_ (by omega)
  exact ⟨b, off, ha, hb, fun i hi => by rw [getD_take hi]; exact hc i (by omega)⟩
theorem Sts.tail {m n : Nat} {w : World} {b off : Nat} {zs : List Int} (h : Sts m w (some ⟨b, off, none⟩) (n + 1) zs) : Sts m w (some ⟨b, off + m, none⟩) n (zs.drop m) := by
  have e : (n + 1) * m = n * m + m := by rw [Nat.add_mul, Nat.one_mul]
  refine ⟨by rw [List.length_drop, h.len, e]; omega, fun hn => ?_⟩
  obtain ⟨b', off', ha, hb, hc⟩ := h.at_ (by omega)
  obtain ⟨rfl, rfl⟩ : b = b' ∧ off = off' := by simpa using ha
  exact ⟨b, off + m, rfl, hb, fun i hi => by rw [getD_drop, Nat.add_assoc]; exact hc (m + i) (by omega)⟩
theorem flsB_head {n : Nat} {zs : List Int} (h : flsB (n + 1) zs = true) (hn : 1 ≤ n) : flsB n (zs.take (n * 5)) = true := by
  rw [flsB_iff] at h ⊢
  refine ⟨by omega, fun k hk => ?_⟩
  have := h.2 k (by omega)
  rw [flOk_iff] at this ⊢
  rw [getD_take (by omega), getD_take (by omega), getD_take (by omega), getD_take (by omega), getD_take (by omega)]
  exact this
theorem flsB_tail {n : Nat} {zs : List Int} (h : flsB (n + 1) zs = true) (hn : 1 ≤ n) : flsB n (zs.drop 5) = true := by
  rw [flsB_iff] at h ⊢
  refine ⟨by omega, fun k hk => ?_⟩
  have := h.2 (k + 1) (by omega)
  rw [flOk_iff] at this ⊢
  simp only [getD_drop]
  have e : ∀ j, 5 + (k * 5 + j) = (k + 1) * 5 + j := fun j => by omega
  have e0 : 5 + k * 5 = (k + 1) * 5 := by omega
  rw [e, e, e, e, e0]
  exact this
end Go.Proofs.Ytnipnemhbelcaaa
