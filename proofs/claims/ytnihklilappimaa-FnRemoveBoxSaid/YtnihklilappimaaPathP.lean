/- Plain facts for the laws of paths, common boxes and next leaves. No condition. -/
import Derived.Test.YtnihklilappimaaPathC
import Derived.Test.YtnihklilappimaaTreeP
import Derived.Test.YtnihklilappimaaIsIn
namespace Go.Proofs.Ytnihklilappimaa
open Go.RowKit

section
variable {zs : List Int} {a b i j k n p t x : Nat}
theorem pathA_size (hv : vtB n zs = true) (ha : a < n) : (pathA n zs (a : Int)).length = dep zs a + 1 := by rw [pathA_at hv ha, List.length_map, path_len]
theorem inL_path (zs : List Int) (a j : Nat) : inL ((pathL zs a).map Int.ofNat) j = anc zs j a := by
  unfold inL
  rw [Bool.eq_iff_iff, decide_eq_true_eq, ← path_mem, List.mem_map]
  constructor
  · rintro ⟨y, hy, e⟩
    obtain rfl : y = j := by have : (y : Int) = (j : Int) := e; omega
    exact hy
  · exact fun h => ⟨j, h, rfl⟩
theorem comA_at (hv : vtB n zs = true) (ha : a < n) (hb : b < n) : comA n zs (a : Int) (b : Int) = (comL zs b a : Nat) := by
  unfold comA; rw [nodeOk_iff.2 ⟨hv, a, rfl, ha⟩, nodeOk_iff.2 ⟨hv, b, rfl, hb⟩, Int.toNat_natCast, Int.toNat_natCast]; rfl
theorem com_lt (h : Link zs n) (ha : a < n) (hb : b < n) : comL zs b a < n := by have := anc_le (com_of h ha hb).1; omega
theorem com_comm (h : Link zs n) (ha : a < n) (hb : b < n) : comL zs a b = comL zs b a := by
  obtain ⟨h1, h2, h3⟩ := com_of h ha hb
  obtain ⟨k1, k2, k3⟩ := com_of h hb ha
  have e1 := anc_le (h3 _ k2 k1)
  have e2 := anc_le (k3 _ h2 h1)
  omega
theorem com_self (zs : List Int) (a : Nat) : comL zs a a = a := com_end (anc_self zs a)
theorem com_root (h : Link zs n) (hb : b < n) : comL zs b 0 = 0 := com_end (h.root_anc hb)
theorem com_is (h : Link zs n) (ha : a < n) (hb : b < n) : decide ((comL zs b a : Int) = (a : Int)) = anc zs a b := by
  rw [Bool.eq_iff_iff, decide_eq_true_eq]
  constructor
  · intro e
    have e2 : comL zs b a = a := by omega
    have h2 := (com_of h ha hb).2.1
    rwa [e2] at h2
  · intro h1; rw [com_end h1]
/-- No box directly in the common box is around both. -/
theorem com_kid (h : Link zs n) (ha : a < n) (hb : b < n) (hx : x ∈ kidL zs n (comL zs b a)) (h1 : anc zs x a = true) : anc zs x b = false := by
  cases h2 : anc zs x b
  · rfl
  · have h3 := anc_le ((com_of h ha hb).2.2 x h1 h2)
    have h4 := h.kid_in hx
    omega
/-- The last number of a list that is also in another one. -/
def lastK (A B : List Int) : Nat → Int
  | 0 => -1
  | k + 1 => if decide (A.getD k 0 ∈ B) = true then A.getD k 0 else lastK A B k
theorem lastK_path (zs : List Int) (a b k : Nat) (hk : k ≤ (pathL zs a).length) : lastK ((pathL zs a).map Int.ofNat) ((pathL zs b).map Int.ofNat) k = comK ((pathL zs a).map Int.ofNat) ((pathL zs b).map Int.ofNat) k := by
  induction k with
  | zero => rfl
  | succ k ih =>
    have h1 := path_both (b := b) (show k < (pathL zs a).length by omega)
    have h2 := inL_path zs b ((pathL zs a).getD k 0)
    unfold inL at h2
    rw [lastK, comK, ih (by omega), getD_map, getD_map, List.length_map, h2]
    by_cases hc : anc zs ((pathL zs a).getD k 0) b = true
    · have h3 := h1.2 hc
      rw [if_pos hc, if_pos ⟨h3.1, by rw [h3.2]⟩]
    · rw [if_neg hc, if_neg (fun h => hc (h1.1 ⟨h.1, by have := h.2; omega⟩))]
/-- What the next leaf is. -/
theorem nlf_spec (zs : List Int) (n i t : Nat) (ht : t ≤ n) : (nlf zs n i t = -1 ∧ ∀ s, t ≤ s → s < n → knd zs ((i + 1 + s) % n) ≠ 0) ∨
    ∃ u, t ≤ u ∧ u < n ∧ nlf zs n i t = (((i + 1 + u) % n : Nat) : Int) ∧ knd zs ((i + 1 + u) % n) = 0 ∧ ∀ s, t ≤ s → s < u → knd zs ((i + 1 + s) % n) ≠ 0 := by
  generalize hm : n - t = m
  induction m using Nat.strongRecOn generalizing t with
  | ind m ih =>
    rcases Nat.lt_or_ge t n with h | h
    · by_cases hk : knd zs ((i + 1 + t) % n) = 0
      · exact .inr ⟨t, Nat.le_refl _, h, nlf_hit h hk, hk, fun s h1 h2 => by omega⟩
      · rw [nlf_go h hk]
        rcases ih (n - (t + 1)) (by omega) (t + 1) (by omega) rfl with ⟨h1, h2⟩ | ⟨u, h1, h2, h3, h4, h5⟩
        · refine .inl ⟨h1, fun s hs hsn => ?_⟩
          rcases Nat.lt_or_ge t s with h6 | h6
          · exact h2 s (by omega) hsn
          · obtain rfl : s = t := by omega
            exact hk
        · refine .inr ⟨u, by omega, h2, h3, h4, fun s hs hsu => ?_⟩
          rcases Nat.lt_or_ge t s with h6 | h6
          · exact h5 s (by omega) hsu
          · obtain rfl : s = t := by omega
            exact hk
    · exact .inl ⟨nlf_end h, fun s h1 h2 => by omega⟩
/-- Every box is reached in fewer steps than there are boxes. -/
theorem step_to (hx : x < n) (i : Nat) : ∃ s, s < n ∧ (i + 1 + s) % n = x := by
  refine ⟨(x + n - (i + 1) % n) % n, Nat.mod_lt _ (by omega), ?_⟩
  have h1 : (i + 1) % n < n := Nat.mod_lt _ (by omega)
  rw [Nat.add_mod, Nat.mod_mod, ← Nat.add_mod]
  have h2 := Nat.mod_add_div (i + 1) n
  generalize hq : (i + 1) / n = q at h2
  generalize hr : (i + 1) % n = r at h1 h2 ⊢
  rw [← h2, show r + n * q + (x + n - r) = x + n * (q + 1) by rw [Nat.mul_add]; omega, Nat.add_mul_mod_self_left]
  exact Nat.mod_eq_of_lt hx
/-- There is no next leaf just if no box is a leaf. -/
theorem nlf_none (hn : 0 < n) : nlf zs n i 0 = -1 ↔ ∀ x, x < n → knd zs x ≠ 0 := by
  constructor
  · intro h x hx
    rcases nlf_spec zs n i 0 (Nat.zero_le _) with ⟨_, h2⟩ | ⟨u, _, _, h3, _⟩
    · obtain ⟨s, hs, e⟩ := step_to hx i
      have := h2 s (Nat.zero_le _) hs
      rwa [e] at this
    · rw [h3] at h; omega
  · intro h
    rcases nlf_spec zs n i 0 (Nat.zero_le _) with ⟨h1, _⟩ | ⟨u, _, _, _, h4, _⟩
    · exact h1
    · exact absurd h4 (h _ (Nat.mod_lt _ hn))
end
/-- How many of the first k boxes are leaves. -/
def cntL (zs : List Int) : Nat → Nat
  | 0 => 0
  | k + 1 => cntL zs k + if knd zs k = 0 then 1 else 0
section
variable {zs : List Int} {a b k n x y : Nat}
theorem cntL_leaf (h : knd zs k = 0) : cntL zs (k + 1) = cntL zs k + 1 := by rw [cntL, if_pos h]
theorem cntL_no (h : knd zs k ≠ 0) : cntL zs (k + 1) = cntL zs k := by rw [cntL, if_neg h]; rfl
theorem cntL_mono (h : a ≤ b) : cntL zs a ≤ cntL zs b := by
  induction b with
  | zero => obtain rfl : a = 0 := by omega
            exact Nat.le_refl _
  | succ b ih =>
    rcases Nat.lt_or_ge b a with h1 | h1
    · obtain rfl : a = b + 1 := by omega
      exact Nat.le_refl _
    · have := ih h1; rw [cntL]; omega
theorem cntL_flat (h : a ≤ b) (hk : ∀ z, a ≤ z → z < b → knd zs z ≠ 0) : cntL zs b = cntL zs a := by
  induction b with
  | zero => obtain rfl : a = 0 := by omega
            rfl
  | succ b ih =>
    rcases Nat.lt_or_ge b a with h1 | h1
    · obtain rfl : a = b + 1 := by omega
      rfl
    · rw [cntL_no (hk b h1 (by omega)), ih h1 fun z hz hzb => hk z hz (by omega)]
theorem cntL_lt (hx : x < n) (h : knd zs x = 0) : cntL zs x < cntL zs n := by
  have := cntL_leaf h
  have := cntL_mono (zs := zs) (show x + 1 ≤ n by omega)
  omega
/-- Leaves with as many leaves ahead of them are one. -/
theorem cntL_same (h1 : knd zs x = 0) (h2 : knd zs y = 0) (h : cntL zs x = cntL zs y) : x = y := by
  rcases Nat.lt_trichotomy x y with h3 | h3 | h3
  · have := cntL_lt h3 h1; omega
  · exact h3
  · have := cntL_lt h3 h2; omega
/-- The next leaf of a leaf has one leaf more ahead of it, or is the first one. -/
theorem nlf_leaf (hx : x < n) (h : knd zs x = 0) : ∃ y : Nat, nlf zs n x 0 = (y : Int) ∧ y < n ∧ knd zs y = 0 ∧ cntL zs y = if cntL zs x + 1 < cntL zs n then cntL zs x + 1 else 0 := by
  rcases nlf_spec zs n x 0 (Nat.zero_le _) with ⟨_, h2⟩ | ⟨u, _, hu, h3, h4, h5⟩
  · obtain ⟨s, hs, e⟩ := step_to hx x
    exact absurd h (by have := h2 s (Nat.zero_le _) hs; rwa [e] at this)
  · have hy : (x + 1 + u) % n < n := Nat.mod_lt _ (by omega)
    refine ⟨_, h3, hy, h4, ?_⟩
    have c1 := cntL_leaf h
    rcases Nat.lt_or_ge (x + 1 + u) n with h6 | h6
    · rw [Nat.mod_eq_of_lt h6] at h4 hy ⊢
      have c2 := cntL_flat (zs := zs) (show x + 1 ≤ x + 1 + u by omega) fun z hz hzu => by
        have := h5 (z - (x + 1)) (Nat.zero_le _) (by omega)
        rwa [show x + 1 + (z - (x + 1)) = z by omega, Nat.mod_eq_of_lt (by omega)] at this
      have c3 := cntL_lt hy h4
      rw [if_pos (by omega)]
      omega
    · have e : (x + 1 + u) % n = x + 1 + u - n := by rw [Nat.mod_eq_sub_mod h6, Nat.mod_eq_of_lt (by omega)]
      rw [e] at h4 hy ⊢
      have c2 := cntL_flat (zs := zs) (show x + 1 ≤ n by omega) fun z hz hzn => by
        have := h5 (z - (x + 1)) (Nat.zero_le _) (by omega)
        rwa [show x + 1 + (z - (x + 1)) = z by omega, Nat.mod_eq_of_lt (by omega)] at this
      have c3 := cntL_flat (zs := zs) (show 0 ≤ x + 1 + u - n by omega) fun z _ hzu => by
        have := h5 (z + n - (x + 1)) (Nat.zero_le _) (by omega)
        rwa [show x + 1 + (z + n - (x + 1)) = z + n by omega, Nat.add_mod_right, Nat.mod_eq_of_lt (by omega)] at this
      rw [if_neg (by omega), c3]
      rfl
end
theorem Ints.pref {w : World} {A : Option Addr} {n k : Nat} {xs : List Int} (h : Ints w A n xs) (hk : k ≤ n) : Ints w A k (xs.take k) := by
  refine ⟨by rw [List.length_take, h.len]; omega, fun h0 => ?_⟩
  obtain ⟨b, off, e, hb, hc⟩ := h.at_ (by omega)
  refine ⟨b, off, e, hb, fun i hi => ?_⟩
  rw [List.getD_eq_getElem?_getD, List.getElem?_take_of_lt hi, ← List.getD_eq_getElem?_getD]
  exact hc i (by omega)
end Go.Proofs.Ytnihklilappimaa
