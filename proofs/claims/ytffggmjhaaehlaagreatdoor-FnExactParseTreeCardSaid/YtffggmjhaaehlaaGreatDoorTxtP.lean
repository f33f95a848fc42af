/- The text of a tree, byte by byte: plain. No condition. -/
import Derived.Test.YtffggmjhaaehlaaGreatDoorTxtN
namespace Go.Proofs.YtffggmjhaaehlaaGreatDoor
open Go.RowKit

/-- A word: not empty, no space, no newline. -/
def Wd (l : List UInt8) : Prop := l ≠ [] ∧ ∀ b ∈ l, b ≠ 32 ∧ b ≠ 10
/-- No space is followed by a space or a newline, and none stands at the end. -/
def spOk : List UInt8 → Bool
  | [] => true
  | [a] => !decide (a = 32)
  | a :: b :: r => (!decide (a = 32) || (!decide (b = 32) && !decide (b = 10))) && spOk (b :: r)
theorem spOk_app : ∀ {x y : List UInt8}, spOk x = true → spOk y = true → spOk (x ++ y) = true
  | [], _, _, h => h
  | [a], [], h, _ => h
  | [a], b :: r, h, hy => by
    have h1 : (!decide (a = 32)) = true := h
    show ((!decide (a = 32) || (!decide (b = 32) && !decide (b = 10))) && spOk (b :: r)) = true
    rw [h1, hy]; rfl
  | a :: b :: r, y, h, hy => by
    have h1 : ((!decide (a = 32) || (!decide (b = 32) && !decide (b = 10))) && spOk (b :: r)) = true := h
    rw [Bool.and_eq_true] at h1
    show ((!decide (a = 32) || (!decide (b = 32) && !decide (b = 10))) && spOk ((b :: r) ++ y)) = true
    rw [h1.1, spOk_app h1.2 hy]; rfl
theorem spOk_plain : ∀ {l : List UInt8}, (∀ b ∈ l, b ≠ 32) → spOk l = true
  | [], _ => rfl
  | [a], h => by show (!decide (a = 32)) = true; rw [decide_eq_false (h a (by simp))]; rfl
  | a :: b :: r, h => by
    show ((!decide (a = 32) || (!decide (b = 32) && !decide (b = 10))) && spOk (b :: r)) = true
    rw [decide_eq_false (h a (by simp)), spOk_plain (fun x hx => h x (by simp at hx ⊢; exact Or.inr hx))]; rfl
theorem spOk_word {l : List UInt8} (h : Wd l) : spOk ([32] ++ l) = true := by
  match l, h with
  | [], h => exact absurd rfl h.1
  | a :: r, h =>
    show ((!decide ((32 : UInt8) = 32) || (!decide (a = 32) && !decide (a = 10))) && spOk (a :: r)) = true
    rw [decide_eq_false (h.2 a (by simp)).1, decide_eq_false (h.2 a (by simp)).2, spOk_plain (fun x hx => (h.2 x hx).1)]; rfl
theorem spOk_at : ∀ {l : List UInt8}, spOk l = true → ∀ i, i + 1 < l.length → l.getD i 0 = 32 → l.getD (i + 1) 0 ≠ 32 ∧ l.getD (i + 1) 0 ≠ 10
  | [], _, i, hi, _ => absurd hi (by simp)
  | [a], _, i, hi, _ => absurd hi (by simp)
  | a :: b :: r, h, i, hi, e => by
    have h1 : ((!decide (a = 32) || (!decide (b = 32) && !decide (b = 10))) && spOk (b :: r)) = true := h
    rw [Bool.and_eq_true] at h1
    cases i with
    | zero =>
      have e1 : a = 32 := e
      have h2 := h1.1
      rw [decide_eq_true e1] at h2
      simpa using h2
    | succ i => exact spOk_at h1.2 i (by simpa using hi) e
theorem spOk_last : ∀ {l : List UInt8}, spOk l = true → 0 < l.length → l.getD (l.length - 1) 0 ≠ 32
  | [], _, h => absurd h (by simp)
  | [a], h, _ => by have h1 : (!decide (a = 32)) = true := h; simpa using h1
  | a :: b :: r, h, _ => by
    have h1 : ((!decide (a = 32) || (!decide (b = 32) && !decide (b = 10))) && spOk (b :: r)) = true := h
    rw [Bool.and_eq_true] at h1
    have := spOk_last h1.2 (by simp)
    simpa using this
theorem dd_bytes : ∀ (u : Nat), Wd (Lib.decDigits u) := by
  intro u
  induction u using Nat.strongRecOn with
  | ind u ih =>
    have dig : ∀ k, k < 10 → UInt8.ofNat (48 + k) ≠ 32 ∧ UInt8.ofNat (48 + k) ≠ 10 := by
      intro k hk
      rcases (show k = 0 ∨ k = 1 ∨ k = 2 ∨ k = 3 ∨ k = 4 ∨ k = 5 ∨ k = 6 ∨ k = 7 ∨ k = 8 ∨ k = 9 by omega) with rfl | rfl | rfl | rfl | rfl | rfl | rfl | rfl | rfl | rfl <;> decide
    by_cases h : u < 10
    · rw [decDigits_low h]
      exact ⟨by simp, fun b hb => by
        simp only [List.mem_singleton] at hb
        rw [hb]; exact dig u h⟩
    · rw [decDigits_high h]
      exact ⟨by simp, fun b hb => by
        simp only [List.mem_append, List.mem_singleton] at hb
        rcases hb with hb | rfl
        · exact (ih (u / 10) (by omega)).2 b hb
        · exact dig _ (by omega)⟩
theorem kn_word (k : Nat) : Wd (kn k) := by unfold kn; split <;> exact ⟨by simp, by decide⟩
theorem nm_word (k : Nat) : Wd (nm k) := by unfold nm; split <;> exact ⟨by simp, by decide⟩
/-- Neither a newline nor a space that is not needed. -/
def Ln (l : List UInt8) : Prop := spOk l = true ∧ ∀ b ∈ l, b ≠ 10
section
variable {x y l : List UInt8}
theorem Ln.app (h : Ln x) (h' : Ln y) : Ln (x ++ y) := ⟨spOk_app h.1 h'.1, fun b hb => (List.mem_append.1 hb).elim (h.2 b) (h'.2 b)⟩
theorem Wd.ln (h : Wd l) : Ln l := ⟨spOk_plain (fun b hb => (h.2 b hb).1), fun b hb => (h.2 b hb).2⟩
theorem Wd.sp (h : Wd l) : Ln ([32] ++ l) := ⟨spOk_word h, fun b hb => by
  simp only [List.mem_append, List.mem_singleton] at hb
  rcases hb with rfl | hb
  · decide
  · exact (h.2 b hb).2⟩
theorem Ln.nil : Ln [] := ⟨rfl, fun b hb => absurd hb (by simp)⟩
theorem sw_ln (h : Wd l) (v : Int) : Ln (sw l v) := by
  unfold sw
  split
  · exact Ln.nil
  · rw [List.append_assoc]
    exact h.sp.app (dd_bytes _).sp
theorem sws_ln (vs : List Int) : ∀ j, Ln (sws vs j)
  | 0 => Ln.nil
  | j + 1 => (sws_ln vs j).app (sw_ln (nm_word j) _)
theorem hdT_ln (k : Nat) (wd ht : Int) : Ln (hdT k wd ht) := by
  unfold hdT
  split
  · rw [List.append_assoc _ [32] (Lib.decDigits ht.toNat), List.append_assoc (kn 0) [32]]
    exact ((kn_word 0).ln.app (dd_bytes _).sp).app (dd_bytes _).sp
  · exact (kn_word k).ln
theorem lnT_ln (zs : List Int) (i : Nat) : Ln (lnT zs i) := by
  have h1 : Ln (List.replicate (dep zs i) 45) := ⟨spOk_plain (fun b hb => by rw [(List.mem_replicate.1 hb).2]; decide), fun b hb => by rw [(List.mem_replicate.1 hb).2]; decide⟩
  exact h1.app ((hdT_ln _ _ _).app (sws_ln _ 5))
end
section
variable {zs : List Int} {n : Nat} {l : List UInt8}
theorem txT_sp (zs : List Int) : ∀ n, spOk (txT zs n) = true
  | 0 => rfl
  | n + 1 => spOk_app (spOk_app (txT_sp zs n) (by unfold spT; split <;> rfl)) (lnT_ln zs n).1
/-- How many newlines stand ahead of a place. -/
def ctN (l : List UInt8) (k : Nat) : Nat := (l.take k).count 10
theorem ctN_yes {k : Nat} (h : k < l.length) (e : l.getD k 0 = 10) : ctN l (k + 1) = ctN l k + 1 := by
  unfold ctN
  rw [List.take_add_one, List.count_append]
  have : l[k]? = some 10 := by rw [List.getD_eq_getElem?_getD, List.getElem?_eq_getElem h] at e; rw [List.getElem?_eq_getElem h]; exact congrArg some e
  rw [this]; rfl
theorem ctN_no {k : Nat} (h : k < l.length) (e : l.getD k 0 ≠ 10) : ctN l (k + 1) = ctN l k := by
  unfold ctN
  rw [List.take_add_one, List.count_append]
  have : l[k]? = some (l.getD k 0) := by rw [List.getD_eq_getElem?_getD, List.getElem?_eq_getElem h]; rfl
  have h0 : [l.getD k 0].count 10 = 0 := List.count_eq_zero.2 (fun hm => e (List.mem_singleton.1 hm).symm)
  rw [this]
  show _ + [l.getD k 0].count 10 = _
  rw [h0, Nat.add_zero]
theorem ctN_le (l : List UInt8) (k : Nat) : ctN l k ≤ k := Nat.le_trans List.count_le_length (by simp [List.length_take]; omega)
theorem ctN_all (l : List UInt8) : ctN l l.length = l.count 10 := by unfold ctN; rw [List.take_length]
theorem Ln.count (h : Ln l) : l.count 10 = 0 := List.count_eq_zero.2 (fun hm => h.2 10 hm rfl)
theorem txT_count (zs : List Int) : ∀ n, (txT zs (n + 1)).count 10 = n
  | 0 => by
    show (([] ++ spT 0) ++ lnT zs 0).count 10 = 0
    rw [List.count_append, (lnT_ln zs 0).count]; rfl
  | n + 1 => by
    show ((txT zs (n + 1) ++ spT (n + 1)) ++ lnT zs (n + 1)).count 10 = n + 1
    have : spT (n + 1) = [10] := by unfold spT; rw [if_neg (by omega)]
    rw [List.count_append, List.count_append, txT_count zs n, (lnT_ln zs (n + 1)).count, this]; rfl
theorem getD_app {x y : List UInt8} (h : 0 < x.length) : (x ++ y).getD 0 0 = x.getD 0 0 := by
  match x, h with
  | a :: r, _ => rfl
theorem hdT_first (k : Nat) (wd ht : Int) : 0 < (hdT k wd ht).length ∧ (hdT k wd ht).getD 0 0 = (kn k).getD 0 0 := by
  unfold hdT
  split
  · rename_i h
    subst h
    exact ⟨by simp [kn], rfl⟩
  · exact ⟨List.length_pos_iff.2 (kn_word k).1, rfl⟩
theorem txT_first (hd : dep zs 0 = 0) : ∀ n, 0 < (txT zs (n + 1)).length ∧ (txT zs (n + 1)).getD 0 0 = (kn (knd zs 0).toNat).getD 0 0
  | 0 => by
    have e : txT zs 1 = hdT (knd zs 0).toNat (zs.getD (0 * 9 + 2) 0) (zs.getD (0 * 9 + 3) 0) ++ sws (valL zs 0) 5 := by
      show ([] ++ spT 0) ++ (List.replicate (dep zs 0) 45 ++ (hdT (knd zs 0).toNat (zs.getD (0 * 9 + 2) 0) (zs.getD (0 * 9 + 3) 0) ++ sws (valL zs 0) 5)) = _
      rw [hd]; rfl
    have h := hdT_first (knd zs 0).toNat (zs.getD (0 * 9 + 2) 0) (zs.getD (0 * 9 + 3) 0)
    rw [e]
    exact ⟨by rw [List.length_append]; omega, by rw [getD_app h.1]; exact h.2⟩
  | n + 1 => by
    have h := txT_first hd n
    have e : txT zs (n + 1 + 1) = txT zs (n + 1) ++ (spT (n + 1) ++ lnT zs (n + 1)) := List.append_assoc _ _ _
    rw [e]
    exact ⟨by rw [List.length_append]; omega, by rw [getD_app h.1]; exact h.2⟩
theorem kn_first {k : Nat} (h : k ≤ 3) : (kn k).getD 0 0 = [(108 : UInt8), 98, 114, 99].getD k 0 := by
  rcases (show k = 0 ∨ k = 1 ∨ k = 2 ∨ k = 3 by omega) with rfl | rfl | rfl | rfl <;> rfl
end
/-- One byte of a text. -/
theorem bytes_at (l : List UInt8) (i : Nat) (h : i < (⟨l.toArray⟩ : ByteArray).size) : (⟨l.toArray⟩ : ByteArray)[i] = l.getD i 0 := by
  have h1 : i < l.length := by simpa [ByteArray.size] using h
  rw [List.getD_eq_getElem?_getD, List.getElem?_eq_getElem h1]
  rfl
theorem run_str_at (t : TypeId) (ht : Tryz.prog.underlying t = some .string) (l : List UInt8) (k : Nat) (h : k < l.length) (W : World) :
    (Instr.index t (str l) (.int .i64 (k : Int))).run Tryz.prog W = .ok (.int .u8 ((l.getD k 0).toNat : Int)) W := by
  have hs : (⟨l.toArray⟩ : ByteArray).size = l.length := by simp [ByteArray.size]
  rw [run_index_string W t _ .i64 k ht, dif_pos ⟨by omega, by rw [hs]; omega⟩, bytes_at, Int.toNat_natCast]
end Go.Proofs.YtffggmjhaaehlaaGreatDoor
