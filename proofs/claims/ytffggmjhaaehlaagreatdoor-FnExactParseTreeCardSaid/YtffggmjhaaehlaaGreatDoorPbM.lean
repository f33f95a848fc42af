/- A text cut into words, and the number that a word is: plain. No condition. -/
import Derived.Test.YtffggmjhaaehlaaGreatDoorTxtP
import Derived.Lib.SplitLaws
import Derived.Lib.AtoiAllCases
import Derived.Lib.TrimByte
namespace Go.Proofs.YtffggmjhaaehlaaGreatDoor
open Go.RowKit

/-- A text cut at every byte of a kind. -/
def pcs (c : UInt8) : List UInt8 → List (List UInt8)
  | [] => [[]]
  | b :: r => if b = c then [] :: pcs c r else ([b] ++ (pcs c r).headD []) :: (pcs c r).tail
/-- Words behind one another, the byte ahead of each. -/
def tlC (c : UInt8) (ys : List (List UInt8)) : List UInt8 := ys.flatMap (fun y => [c] ++ y)
section
variable {c : UInt8} {x y l : List UInt8} {ys : List (List UInt8)}
theorem pcs_cons (c b : UInt8) (r : List UInt8) : pcs c (b :: r) = if b = c then [] :: pcs c r else ([b] ++ (pcs c r).headD []) :: (pcs c r).tail := rfl
theorem pcs_ne (c : UInt8) : ∀ l, ∃ h t, pcs c l = h :: t
  | [] => ⟨_, _, rfl⟩
  | b :: r => by
    rw [pcs_cons]
    split <;> exact ⟨_, _, rfl⟩
theorem pcs_none : ∀ {x : List UInt8}, (∀ b ∈ x, b ≠ c) → pcs c x = [x]
  | [], _ => rfl
  | b :: r, h => by
    rw [pcs_cons]
    rw [if_neg (h b (by simp)), pcs_none (fun a ha => h a (by simp [ha]))]
    rfl
theorem pcs_hit (y : List UInt8) : ∀ {x : List UInt8}, (∀ b ∈ x, b ≠ c) → pcs c (x ++ c :: y) = x :: pcs c y
  | [], _ => by
    show pcs c (c :: y) = _
    rw [pcs_cons]
    rw [if_pos rfl]
  | b :: r, h => by
    show pcs c (b :: (r ++ c :: y)) = _
    have ih := pcs_hit y (x := r) (fun a ha => h a (by simp [ha]))
    rw [pcs_cons]
    rw [if_neg (h b (by simp)), ih]
    rfl
theorem pcs_join : ∀ (ys : List (List UInt8)) {x : List UInt8}, (∀ b ∈ x, b ≠ c) → (∀ y ∈ ys, ∀ b ∈ y, b ≠ c) → pcs c (x ++ tlC c ys) = x :: ys
  | [], x, h, _ => by
    show pcs c (x ++ []) = _
    rw [List.append_nil, pcs_none h]
  | y :: r, x, h, hy => by
    show pcs c (x ++ (([c] ++ y) ++ tlC c r)) = _
    rw [show ([c] ++ y) ++ tlC c r = c :: (y ++ tlC c r) by simp, pcs_hit _ h, pcs_join r (hy y (by simp)) (fun z hz => hy z (by simp [hz]))]
theorem join_pcs (c : UInt8) : ∀ l : List UInt8, l = (pcs c l).headD [] ++ tlC c (pcs c l).tail
  | [] => rfl
  | b :: r => by
    have ih := join_pcs c r
    obtain ⟨h, t, e⟩ := pcs_ne c r
    rw [e] at ih
    rw [pcs_cons]
    split
    · rename_i hb
      subst hb
      rw [e]
      show b :: r = [] ++ (([b] ++ h) ++ tlC b t)
      have ih' : r = h ++ tlC b t := ih
      rw [ih']; simp
    · rw [e]
      show b :: r = ([b] ++ h) ++ tlC c t
      have ih' : r = h ++ tlC c t := ih
      rw [ih']; simp
theorem pcs_free (c : UInt8) : ∀ (l : List UInt8), ∀ w ∈ pcs c l, ∀ b ∈ w, b ≠ c
  | [], w, hw, b, hb => by
    have : w = [] := by simpa [pcs] using hw
    rw [this] at hb; cases hb
  | a :: r, w, hw, b, hb => by
    have ih := pcs_free c r
    obtain ⟨h, t, e⟩ := pcs_ne c r
    rw [e] at ih
    rw [pcs_cons, e] at hw
    split at hw
    · rcases List.mem_cons.1 hw with rfl | hw
      · cases hb
      · exact ih w hw b hb
    · rename_i ha
      rcases List.mem_cons.1 hw with rfl | hw
      · rcases List.mem_append.1 hb with hb | hb
        · rw [List.mem_singleton.1 hb]; exact ha
        · exact ih h (by simp) b hb
      · exact ih w (List.mem_cons_of_mem _ hw) b hb
theorem pcs_len (c : UInt8) : ∀ l : List UInt8, (pcs c l).length ≤ l.length + 1
  | [] => Nat.le_refl _
  | b :: r => by
    have ih := pcs_len c r
    rw [pcs_cons]
    split
    · simp; omega
    · simp [List.length_tail]; omega
theorem pcs_word_len (c : UInt8) : ∀ (l : List UInt8), ∀ w ∈ pcs c l, w.length ≤ l.length
  | [], w, hw => by
    have : w = [] := by simpa [pcs] using hw
    rw [this]; exact Nat.le_refl _
  | a :: r, w, hw => by
    have ih := pcs_word_len c r
    obtain ⟨h, t, e⟩ := pcs_ne c r
    rw [e] at ih
    rw [pcs_cons, e] at hw
    split at hw
    · rcases List.mem_cons.1 hw with rfl | hw
      · exact Nat.zero_le _
      · exact Nat.le_succ_of_le (ih w hw)
    · rcases List.mem_cons.1 hw with rfl | hw
      · have := ih h (by simp)
        show ([a] ++ h).length ≤ _
        simp; exact this
      · exact Nat.le_succ_of_le (ih w (List.mem_cons_of_mem _ hw))
theorem pcs_at_len (c : UInt8) (l : List UInt8) (i : Nat) : ((pcs c l).getD i []).length ≤ l.length := by
  rw [List.getD_eq_getElem?_getD]
  cases h : (pcs c l)[i]? with
  | none => exact Nat.zero_le _
  | some w => exact pcs_word_len c l w (List.mem_of_getElem? h)
/-- The first piece, by the library's look-up. -/
theorem index_no : ∀ {l : List UInt8}, Lib.index l [c] = -1 → ∀ b ∈ l, b ≠ c
  | [], _, b, hb => by cases hb
  | a :: r, h, b, hb => by
    unfold Lib.index at h
    by_cases ha : a = c
    · subst ha
      simp [List.isPrefixOf] at h
    · have hp : ([c] : List UInt8).isPrefixOf (a :: r) = false := by simp [List.isPrefixOf, Ne.symm ha]
      rw [hp] at h
      have hr : Lib.index r [c] = -1 := by
        by_cases h1 : Lib.index r [c] = -1
        · exact h1
        · have h2 := Lib.index_ge r [c]
          rw [if_neg (by simp), if_neg (by simpa using h1)] at h
          omega
      rcases List.mem_cons.1 hb with rfl | hb
      · exact ha
      · exact index_no hr b hb
theorem index_at : ∀ {l : List UInt8} {i : Nat}, Lib.index l [c] = (i : Int) → (∀ b ∈ l.take i, b ≠ c) ∧ l = l.take i ++ c :: l.drop (i + 1)
  | [], i, h => by simp [Lib.index] at h
  | a :: r, i, h => by
    unfold Lib.index at h
    by_cases ha : a = c
    · subst ha
      have : (0 : Int) = (i : Int) := by simpa [List.isPrefixOf] using h
      obtain rfl : i = 0 := by omega
      exact ⟨fun b hb => by simp at hb, rfl⟩
    · have hp : ([c] : List UInt8).isPrefixOf (a :: r) = false := by simp [List.isPrefixOf, Ne.symm ha]
      rw [hp] at h
      by_cases h1 : Lib.index r [c] = -1
      · rw [if_neg (by simp), if_pos (by simp [h1])] at h; omega
      · rw [if_neg (by simp), if_neg (by simpa using h1)] at h
        have h2 := Lib.index_ge r [c]
        obtain ⟨k, rfl⟩ : ∃ k, i = k + 1 := ⟨i - 1, by omega⟩
        obtain ⟨f, e⟩ := index_at (l := r) (i := k) (by omega)
        refine ⟨fun b hb => ?_, ?_⟩
        · rcases List.mem_cons.1 hb with rfl | hb
          · exact ha
          · exact f b hb
        · show a :: r = a :: (r.take k ++ c :: r.drop (k + 1))
          rw [← e]
theorem split_pcs (c : UInt8) : ∀ (n : Nat) (l : List UInt8), l.length ≤ n → Lib.split l [c] = pcs c l := by
  intro n
  induction n with
  | zero =>
    intro l hl
    have : l = [] := List.length_eq_zero_iff.1 (by omega)
    subst this
    rfl
  | succ n ih =>
    intro l hl
    rcases Lib.index_spec l [c] with ⟨h, _⟩ | ⟨i, h, _⟩
    · unfold Lib.split
      rw [Lib.count_miss h, pcs_none (index_no h)]
      rfl
    · obtain ⟨f, e⟩ := index_at h
      have hc := Lib.count_hit (s := l) (sub := [c]) (by simp) h
      have hlen : (l.drop (i + 1)).length ≤ n := by
        have := congrArg List.length e
        simp only [List.length_append, List.length_cons, List.length_drop, List.length_take] at this
        rw [List.length_drop]
        omega
      unfold Lib.split
      rw [hc, Nat.add_comm]
      show Lib.splitK [c] 0 (Lib.count (l.drop (i + [c].length)) [c] + 1) l = _
      unfold Lib.splitK
      rw [if_neg (by rw [h]; simp), h]
      have ih' := ih (l.drop (i + 1)) hlen
      unfold Lib.split at ih'
      have e1 : ((i : Int).toNat + 0) = i := by omega
      have e2 : ((i : Int).toNat + [c].length) = i + 1 := by simp
      have e3 : (i + [c].length) = i + 1 := by simp
      rw [e1, e2, e3, ih']
      conv => rhs; rw [e]
      rw [pcs_hit _ f]
end
/-- The number that digits are. -/
def dval (l : List UInt8) : Nat := l.foldl (fun a b => a * 10 + (b.toNat - 48)) 0
def numT (l : List UInt8) : Int := if l.length ≤ 5 ∧ Lib.decDigits (dval l) = l then (dval l : Int) else -1
theorem dig_toNat {k : Nat} (h : k < 10) : (UInt8.ofNat (48 + k)).toNat = 48 + k := by
  have := byte48 h
  omega
theorem dval_dd (u : Nat) : dval (Lib.decDigits u) = u := by
  induction u using Nat.strongRecOn with
  | ind u ih =>
    by_cases h : u < 10
    · rw [decDigits_low h]
      show 0 * 10 + ((UInt8.ofNat (48 + u)).toNat - 48) = u
      rw [dig_toNat h]; omega
    · rw [decDigits_high h]
      unfold dval
      rw [List.foldl_append]
      have := ih (u / 10) (by omega)
      unfold dval at this
      rw [this]
      show u / 10 * 10 + ((UInt8.ofNat (48 + u % 10)).toNat - 48) = u
      rw [dig_toNat (by omega)]; omega
section
variable {l : List UInt8} {u : Nat}
theorem numT_dd (h : u ≤ 99999) : numT (Lib.decDigits u) = (u : Int) := by
  unfold numT
  rw [dval_dd, if_pos ⟨decDigits_len 4 u (by omega), rfl⟩]
theorem numT_of (hl : l.length ≤ 5) (h : Lib.decDigits u = l) : numT l = (u : Int) := by
  subst h
  unfold numT
  rw [dval_dd, if_pos ⟨hl, rfl⟩]
theorem numT_no (h : ∀ u, Lib.decDigits u ≠ l) : numT l = -1 := by unfold numT; rw [if_neg (fun k => h _ k.2)]
theorem numT_long (h : 5 < l.length) : numT l = -1 := by unfold numT; rw [if_neg (fun k => by omega)]
theorem dd_low : ∀ (k u : Nat), (Lib.decDigits u).length ≤ k → u < 10 ^ k
  | 0, u, h => absurd (List.length_pos_iff.2 (dd_bytes u).1) (by omega)
  | k + 1, u, h => by
    by_cases hu : u < 10
    · have : 10 ^ 1 ≤ 10 ^ (k + 1) := Nat.pow_le_pow_right (by omega) (by omega)
      omega
    · rw [decDigits_high hu, List.length_append] at h
      have := dd_low k (u / 10) (by simp at h; omega)
      rw [Nat.pow_succ]
      omega
theorem numT_le (l : List UInt8) : -1 ≤ numT l ∧ numT l ≤ 99999 := by
  unfold numT
  split
  · rename_i h
    have h1 := dd_low 5 (dval l) (by rw [h.2]; exact h.1)
    omega
  · omega
/-- What the library's Atoi says of digits. -/
theorem pu_snoc {b : UInt8} {k : Nat} (hb : b.toNat = 48 + k) (hk : k < 10) : ∀ (l : List UInt8) (acc m : Nat), Lib.parseUint10 acc l = .ok m → m < 1844674407370955161 → Lib.parseUint10 acc (l ++ [b]) = .ok (m * 10 + k)
  | [], acc, m, h, hm => by
    have e : acc = m := by simpa [Lib.parseUint10] using h
    subst e
    show Lib.parseUint10 acc [b] = _
    unfold Lib.parseUint10
    rw [if_pos (by omega), if_neg (by omega), if_neg (by omega)]
    unfold Lib.parseUint10
    rw [hb]
    congr 1; omega
  | a :: r, acc, m, h, hm => by
    show Lib.parseUint10 acc (a :: (r ++ [b])) = _
    unfold Lib.parseUint10 at h ⊢
    split at h
    · rename_i h1
      rw [if_pos h1]
      split at h
      · cases h
      · rename_i h2
        rw [if_neg h2]
        split at h
        · cases h
        · rename_i h3
          rw [if_neg h3]
          exact pu_snoc hb hk r _ m h hm
    · cases h
theorem pu_dd (u : Nat) (h : u < 1000000000000000000) : Lib.parseUint10 0 (Lib.decDigits u) = .ok u := by
  induction u using Nat.strongRecOn with
  | ind u ih =>
    by_cases hu : u < 10
    · rw [decDigits_low hu]
      have := pu_snoc (dig_toNat hu) hu [] 0 0 rfl (by omega)
      simpa using this
    · rw [decDigits_high hu, pu_snoc (dig_toNat (k := u % 10) (by omega)) (by omega) _ _ _ (ih (u / 10) (by omega) (by omega)) (by omega)]
      congr 1; omega
theorem dd_head : ∀ u, ∃ b r, Lib.decDigits u = b :: r ∧ 48 ≤ b.toNat ∧ b.toNat ≤ 57 := by
  intro u
  induction u using Nat.strongRecOn with
  | ind u ih =>
    by_cases hu : u < 10
    · rw [decDigits_low hu]
      exact ⟨_, _, rfl, by rw [dig_toNat hu]; omega, by rw [dig_toNat hu]; omega⟩
    · obtain ⟨b, r, e, h1, h2⟩ := ih (u / 10) (by omega)
      rw [decDigits_high hu, e]
      exact ⟨_, _, rfl, h1, h2⟩
theorem atoi_dd (u : Nat) (h : u < 1000000000000000000) : Lib.atoiAll (Lib.decDigits u) = .ok (u : Int) := by
  obtain ⟨b, r, e, h1, h2⟩ := dd_head u
  have hp := pu_dd u h
  rw [e] at hp ⊢
  rw [Lib.atoiAll_plain b r (by omega) (by omega)]
  unfold Lib.parseMag
  rw [if_neg (by simp), hp]
  show (if 9223372036854775808 ≤ u then Lib.NumEnd.range else Lib.NumEnd.ok (u : Int)) = _
  rw [if_neg (by omega)]
/-- What stands there when Atoi does not answer with it. -/
theorem numT_atoi (h : numT l ≠ -1) : ∃ u : Nat, numT l = (u : Int) ∧ Lib.decDigits u = l ∧ Lib.atoiAll l = .ok (u : Int) ∧ u ≤ 99999 := by
  unfold numT at h ⊢
  split at h
  · rename_i k
    have hu := dd_low 5 (dval l) (by rw [k.2]; exact k.1)
    rw [if_pos k]
    refine ⟨dval l, rfl, k.2, ?_, by omega⟩
    have := atoi_dd (dval l) (by omega)
    rwa [k.2] at this
  · exact absurd rfl h
end
end Go.Proofs.YtffggmjhaaehlaaGreatDoor
