/- Parts that belong together: LayB, LayA, HitM, HitP. Conditions: as each part says. -/
import Derived.Test.YtobnjagmakhgpaaZW
/- Plain facts on layouts of blocks, for their law: each box is as high as it needs, and they follow each other with the gap. -/
namespace Go.Proofs.Ytobnjagmakhgpaa
open Go.RowKit

theorem lay_block {n p t : Nat} {zs : List Int} {W H : Int} (hv : vtB n zs = true) (hk : knd zs p = 1) (ht : t < (kidL zs n p).length) :
    layR zs n W H ((kidL zs n p).getD t 0) = ((inQ zs p (layR zs n W H p)).1, (inQ zs p (layR zs n W H p)).2.1 + topL (fun j => (natL zs n j).2) (zs.getD (p * 9 + 5) 0) (kidL zs n p) t, (inQ zs p (layR zs n W H p)).2.2.1, (natL zs n ((kidL zs n p).getD t 0)).2) := by
  have hs : kidL zs n p = (kidL zs n p).take t ++ (kidL zs n p).getD t 0 :: (kidL zs n p).drop (t + 1) := by
    have h := (List.take_append_drop t (kidL zs n p)).symm
    rw [List.drop_eq_getElem_cons ht] at h
    rw [show (kidL zs n p).getD t 0 = (kidL zs n p)[t] by simp [ht]]
    exact h
  have hl : ((kidL zs n p).take t).length = t := by rw [List.length_take]; omega
  rw [lay_kid (link_vt hv) hs, hl]
  unfold plcL
  rw [if_neg (by rw [hk]; decide), if_neg (by rw [hk]; decide), blkL_at ht]
/-- All that the law asks of a box in a block. -/
theorem lay_blk {n p t : Nat} {zs : List Int} {W H : Int} (hv : vtB n zs = true) (hW : 0 ≤ W ∧ W ≤ 10000) (hH : 0 ≤ H ∧ H ≤ 10000) (hk : zs.getD (p * 9 + 1) 0 = 1) (ht : t < (kidL zs n p).length) :
    (kidL zs n p).getD t 0 < n ∧ natH n zs (((kidL zs n p).getD t 0 : Nat) : Int) = (layR zs n W H ((kidL zs n p).getD t 0)).2.2.2 ∧ nodeOk n zs (((kidL zs n p).getD t 0 : Nat) : Int) = true ∧ (0 ≤ (layR zs n W H ((kidL zs n p).getD t 0)).2.1 ∧ (layR zs n W H ((kidL zs n p).getD t 0)).2.1 ≤ 100000) ∧ (0 ≤ (layR zs n W H ((kidL zs n p).getD t 0)).2.2.2 ∧ (layR zs n W H ((kidL zs n p).getD t 0)).2.2.2 ≤ 10000) ∧
      ∀ s, t = s + 1 → (layR zs n W H ((kidL zs n p).getD t 0)).2.1 = (layR zs n W H ((kidL zs n p).getD s 0)).2.1 + (layR zs n W H ((kidL zs n p).getD s 0)).2.2.2 + zs.getD (p * 9 + 5) 0 := by
  have hu := (kid_mem.1 (kid_get ht)).1
  have hb := lay_bd hv hW hH _ hu
  have hd := dep_le5 hv hu
  have h1 := lay_block (W := W) (H := H) hv hk ht
  refine ⟨hu, ?_, nodeOk_iff.2 ⟨hv, _, rfl, hu⟩, ⟨hb.2.1.1, by have := hb.2.1.2; omega⟩, hb.2.2.2, fun s hs => ?_⟩
  · rw [natH_at hv hu, h1]
  · subst hs
    have hs : s < (kidL zs n p).length := by omega
    rw [h1, lay_block (W := W) (H := H) hv hk hs]
    dsimp only
    rw [topL_succ hs]
    omega
end Go.Proofs.Ytobnjagmakhgpaa

/- Plain facts on layouts: boxes side by side follow each other with the gap, and so have no common points. No condition. -/
namespace Go.Proofs.Ytobnjagmakhgpaa
open Go.RowKit

section
variable {n p t s : Nat} {zs : List Int} {W H : Int}
theorem kid_split (ht : t < (kidL zs n p).length) : kidL zs n p = (kidL zs n p).take t ++ (kidL zs n p).getD t 0 :: (kidL zs n p).drop (t + 1) := by
  have h := (List.take_append_drop t (kidL zs n p)).symm
  rw [List.drop_eq_getElem_cons ht] at h
  rw [show (kidL zs n p).getD t 0 = (kidL zs n p)[t] by simp [ht]]
  exact h
theorem lay_plc (hL : Link zs n) (ht : t < (kidL zs n p).length) : layR zs n W H ((kidL zs n p).getD t 0) = (plcL zs n p (layR zs n W H p)).getD t rq0 := by
  have hl : ((kidL zs n p).take t).length = t := by rw [List.length_take]; omega
  rw [lay_kid hL (kid_split ht), hl]
theorem LineP.next {l : List Nat} {g : Nat → Int} {gap sp just : Int} (h : LineP zs l g gap) (hs : 0 ≤ sp ∧ sp ≤ 10000) (hj : 0 ≤ just ∧ just ≤ 3) (ht : t + 1 < l.length) : (ofL g zs l gap sp just).getD t 0 + (szL g zs l gap sp).getD t 0 + gap ≤ (ofL g zs l gap sp just).getD (t + 1) 0 := by
  obtain ⟨hl, s0, hs2⟩ := h.left hs
  have hlen := h.sz_len hs
  have fb := frontL_bd (leftA (szL g zs l gap sp) sp gap) l.length just hl ⟨h.l1, h.l8⟩
  rw [h.of hs hj, offsL_at _ _ _ _ (by omega), offsL_at _ _ _ _ (by omega), offAt_succ]
  have := (fb (t + 1)).1
  omega
theorem par_lt (hv : vtB n zs = true) (ht : t < (kidL zs n p).length) : p < n := by
  obtain ⟨h1, h2, _⟩ := (link_vt hv).kid_in (kid_get ht)
  have h3 := kid_mem.1 (kid_get ht)
  have := (link_vt hv).not_kid h3.1 h3.2
  omega
/-- Boxes directly in a box follow each other with its gap. -/
theorem lay_next (hv : vtB n zs = true) (hW : 0 ≤ W ∧ W ≤ 10000) (hH : 0 ≤ H ∧ H ≤ 10000) (ht : t + 1 < (kidL zs n p).length) :
    (knd zs p = 2 → (layR zs n W H ((kidL zs n p).getD t 0)).1 + (layR zs n W H ((kidL zs n p).getD t 0)).2.2.1 + zs.getD (p * 9 + 5) 0 ≤ (layR zs n W H ((kidL zs n p).getD (t + 1) 0)).1) ∧
    (knd zs p ≠ 2 → (layR zs n W H ((kidL zs n p).getD t 0)).2.1 + (layR zs n W H ((kidL zs n p).getD t 0)).2.2.2 + zs.getD (p * 9 + 5) 0 ≤ (layR zs n W H ((kidL zs n p).getD (t + 1) 0)).2.1) := by
  have hL := link_vt hv
  have hp := par_lt hv ht
  have h0 : kidL zs n p ≠ [] := fun e => by rw [e] at ht; simp at ht
  have hj := just_bd hv hp
  have hb := lay_bd hv hW hH p hp
  have hi := inQ_bd (pad_bd hv hp) hb
  rw [lay_plc (t := t) (W := W) (H := H) hL (by omega), lay_plc (t := t + 1) (W := W) (H := H) hL ht]
  unfold plcL
  refine ⟨fun hk => ?_, fun hk => ?_⟩
  · rw [if_pos hk, lineL_at (by omega), lineL_at ht]
    dsimp only
    have P := kids_in (g := fun j => (natL zs n j).1) hv hp h0 (.inl fun _ => rfl)
    have := P.next hi.2.2.1 hj ht
    omega
  · rw [if_neg hk]
    by_cases hk3 : knd zs p = 3
    · rw [if_pos hk3, lineT_at (by omega), lineT_at ht]
      unfold turnQ
      dsimp only
      have P := kids_in (g := fun j => (natL zs n j).2) hv hp h0 (.inr fun _ => rfl)
      have := P.next hi.2.2.2 hj ht
      omega
    · rw [if_neg hk3, blkL_at (by omega), blkL_at ht]
      dsimp only
      have := topL_succ (g := fun j => (natL zs n j).2) (gap := zs.getD (p * 9 + 5) 0) (l := kidL zs n p) (t := t) (by omega)
      omega
/-- Of two boxes directly in a box, the one ahead ends ahead of the other one's beginning. -/
theorem lay_after (hv : vtB n zs = true) (hW : 0 ≤ W ∧ W ≤ 10000) (hH : 0 ≤ H ∧ H ≤ 10000) : ∀ {d t : Nat}, t + d + 1 < (kidL zs n p).length →
    (knd zs p = 2 → (layR zs n W H ((kidL zs n p).getD t 0)).1 + (layR zs n W H ((kidL zs n p).getD t 0)).2.2.1 ≤ (layR zs n W H ((kidL zs n p).getD (t + d + 1) 0)).1) ∧
    (knd zs p ≠ 2 → (layR zs n W H ((kidL zs n p).getD t 0)).2.1 + (layR zs n W H ((kidL zs n p).getD t 0)).2.2.2 ≤ (layR zs n W H ((kidL zs n p).getD (t + d + 1) 0)).2.1)
  | 0, t, ht => by
    have h1 := lay_next (t := t) hv hW hH (by omega)
    have hg := gap_bd hv (par_lt (p := p) (t := t) hv (by omega))
    rw [Nat.add_zero]
    refine ⟨fun hk => ?_, fun hk => ?_⟩
    · have := h1.1 hk; omega
    · have := h1.2 hk; omega
  | d + 1, t, ht => by
    have h1 := lay_after hv hW hH (d := d) (t := t) (by omega)
    have h2 := lay_next (t := t + d + 1) hv hW hH (by omega)
    have hg := gap_bd hv (par_lt (p := p) (t := t) hv (by omega))
    have hb := lay_bd hv hW hH _ (kid_mem.1 (kid_get (show t + d + 1 < (kidL zs n p).length by omega))).1
    obtain ⟨_, _, b1, b2⟩ := hb
    rw [show t + (d + 1) + 1 = t + d + 1 + 1 by omega]
    refine ⟨fun hk => ?_, fun hk => ?_⟩
    · have := h1.1 hk; have := h2.1 hk; omega
    · have := h1.2 hk; have := h2.2 hk; omega
/-- Two boxes directly in one box. -/
theorem lay_apart {c k : Nat} (hv : vtB n zs = true) (hW : 0 ≤ W ∧ W ≤ 10000) (hH : 0 ≤ H ∧ H ≤ 10000) (hc : par zs c = (p : Int)) (hk : par zs k = (p : Int)) (hck : c < k) (hkn : k < n) :
    (layR zs n W H c).1 + (layR zs n W H c).2.2.1 ≤ (layR zs n W H k).1 ∨ (layR zs n W H c).2.1 + (layR zs n W H c).2.2.2 ≤ (layR zs n W H k).2.1 := by
  have mc : c ∈ kidL zs n p := kid_mem.2 ⟨by omega, hc⟩
  have mk : k ∈ kidL zs n p := kid_mem.2 ⟨hkn, hk⟩
  obtain ⟨i, hi, ei⟩ := List.getElem_of_mem mc
  obtain ⟨j, hj, ej⟩ := List.getElem_of_mem mk
  have gi : (kidL zs n p).getD i 0 = c := by simp [hi, ei]
  have gj : (kidL zs n p).getD j 0 = k := by simp [hj, ej]
  have hij : i < j := by
    have hs := kid_sorted zs n p
    rcases Nat.lt_trichotomy i j with h | h | h
    · exact h
    · subst h; omega
    · have := (List.pairwise_iff_getElem.1 hs) j i hj hi h; omega
  have h := lay_after (p := p) (t := i) (d := j - i - 1) hv hW hH (by omega)
  rw [show i + (j - i - 1) + 1 = j by omega, gi, gj] at h
  by_cases h2 : knd zs p = 2
  · exact .inl (h.1 h2)
  · exact .inr (h.2 h2)
end
end Go.Proofs.Ytobnjagmakhgpaa

/- Plain facts on hits: which box a point hits, told from outside to inside (as the program goes) and as the last box all of whose boxes around have the point (as the reference goes): the same. No condition. -/
namespace Go.Proofs.Ytobnjagmakhgpaa
open Go.RowKit

section
variable (zs : List Int) (n : Nat) (W H x y : Int)
/-- The point is in the box's rectangle. -/
def inB (i : Nat) : Bool := hR (layR zs n W H i).1 (layR zs n W H i).2.1 (layR zs n W H i).2.2.1 (layR zs n W H i).2.2.2 x y
/-- The point is in the box's rectangle and in those of all boxes around it. -/
def inAll (i : Nat) : Bool := if _h : 0 ≤ par zs i ∧ (par zs i).toNat < i then inB zs n W H x y i && inAll (par zs i).toNat else inB zs n W H x y i
termination_by i
decreasing_by omega
def hitTo : Nat → Int
  | 0 => -1
  | k + 1 => if par zs k = hitTo k ∧ inB zs n W H x y k = true then (k : Int) else hitTo k
def lastIn : Nat → Int
  | 0 => -1
  | k + 1 => if inAll zs n W H x y k = true then (k : Int) else lastIn k
def hitA : Int := if layOk n zs W H = true then hitTo zs n W H x y n else -1
end
section
variable {zs : List Int} {n : Nat} {W H x y : Int}
theorem inAll_par {i p : Nat} (h : par zs i = (p : Int)) (hp : p < i) : inAll zs n W H x y i = (inB zs n W H x y i && inAll zs n W H x y p) := by
  rw [inAll, dif_pos ⟨by omega, by omega⟩, h, Int.toNat_natCast]
theorem inAll_top {i : Nat} (h : par zs i < 0) : inAll zs n W H x y i = inB zs n W H x y i := by rw [inAll, dif_neg (by omega)]
theorem inAll_in {i : Nat} (h : inAll zs n W H x y i = true) : inB zs n W H x y i = true := by
  rw [inAll] at h
  split at h
  · exact (Bool.and_eq_true _ _ ▸ h).1
  · exact h
theorem inAll_anc {a : Nat} : ∀ {i : Nat}, anc zs a i = true → inAll zs n W H x y i = true → inAll zs n W H x y a = true := by
  intro i
  induction i using Nat.strongRecOn with
  | ind i ih =>
    intro h1 h2
    by_cases hn : i = a
    · rw [← hn]; exact h2
    · rcases par_cases zs i with ⟨p, e, hp⟩ | h3
      · rw [anc_par e hp hn] at h1
        rw [inAll_par e hp, Bool.and_eq_true] at h2
        exact ih p hp h1 h2.2
      · rw [anc_top h3 hn] at h1; cases h1
/-- Between a box and one further in there is a box directly in the first one. -/
theorem anc_kid {a : Nat} : ∀ {i : Nat}, anc zs a i = true → i ≠ a → ∃ c, par zs c = (a : Int) ∧ a < c ∧ anc zs c i = true := by
  intro i
  induction i using Nat.strongRecOn with
  | ind i ih =>
    intro h1 hn
    rcases par_cases zs i with ⟨p, e, hp⟩ | h3
    · rw [anc_par e hp hn] at h1
      by_cases hpa : p = a
      · subst hpa; exact ⟨i, e, hp, anc_self _ _⟩
      · obtain ⟨c, hc1, hc2, hc3⟩ := ih p hp h1 hpa
        have := anc_le hc3
        exact ⟨c, hc1, hc2, by rw [anc_par e hp (by omega)]; exact hc3⟩
    · rw [anc_top h3 hn] at h1; cases h1
theorem inB_apart {c k p : Nat} (hv : vtB n zs = true) (hW : 0 ≤ W ∧ W ≤ 10000) (hH : 0 ≤ H ∧ H ≤ 10000) (hc : par zs c = (p : Int)) (hk : par zs k = (p : Int)) (hck : c < k) (hkn : k < n) (h1 : inB zs n W H x y c = true) (h2 : inB zs n W H x y k = true) : False := by
  have h := lay_apart hv hW hH hc hk hck hkn
  unfold inB hR at h1 h2
  have h1 := of_decide_eq_true h1
  have h2 := of_decide_eq_true h2
  omega
theorem lastIn_lt : ∀ k, -1 ≤ lastIn zs n W H x y k ∧ lastIn zs n W H x y k < (k : Int)
  | 0 => by unfold lastIn; omega
  | k + 1 => by
    have := lastIn_lt k
    unfold lastIn
    split <;> omega
theorem lastIn_in : ∀ {k p : Nat}, lastIn zs n W H x y k = (p : Int) → inAll zs n W H x y p = true
  | 0, p, h => by unfold lastIn at h; omega
  | k + 1, p, h => by
    unfold lastIn at h
    split at h
    · next h1 => obtain rfl : k = p := by omega
                 exact h1
    · exact lastIn_in h
theorem lastIn_of : ∀ {k p : Nat}, p < k → inAll zs n W H x y p = true → (∀ j, p < j → j < k → inAll zs n W H x y j = false) → lastIn zs n W H x y k = (p : Int)
  | 0, p, h, _, _ => absurd h (by omega)
  | k + 1, p, h, h1, h2 => by
    unfold lastIn
    by_cases e : p = k
    · subst e; rw [if_pos h1]
    · rw [if_neg (by rw [h2 k (by omega) (by omega)]; simp)]
      exact lastIn_of (by omega) h1 (fun j hj hk => h2 j hj (by omega))
theorem lastIn_no : ∀ {k : Nat}, (∀ j, j < k → inAll zs n W H x y j = false) → lastIn zs n W H x y k = -1
  | 0, _ => rfl
  | k + 1, h => by
    unfold lastIn
    rw [if_neg (by rw [h k (by omega)]; simp)]
    exact lastIn_no fun j hj => h j (by omega)
/-- The program's way and the reference's way end at the same box. -/
theorem hit_eq (hv : vtB n zs = true) (hW : 0 ≤ W ∧ W ≤ 10000) (hH : 0 ≤ H ∧ H ≤ 10000) : ∀ k, k ≤ n → hitTo zs n W H x y k = lastIn zs n W H x y k
  | 0, _ => rfl
  | k + 1, hk => by
    have ih := hit_eq hv hW hH k (by omega)
    have hL := link_vt hv
    unfold hitTo lastIn
    rw [ih]
    have key : (par zs k = lastIn zs n W H x y k ∧ inB zs n W H x y k = true) ↔ inAll zs n W H x y k = true := by
      rcases Nat.eq_zero_or_pos k with h0 | h0
      · subst h0
        have hr := hL.root (by omega)
        rw [inAll_top (by omega), hr]
        exact ⟨fun h => h.2, fun h => ⟨rfl, h⟩⟩
      · obtain ⟨p, e, hp, hq⟩ := hL.up k h0 (by omega)
        rw [inAll_par e hp, e, Bool.and_eq_true]
        refine ⟨fun h => ⟨h.2, lastIn_in h.1.symm⟩, fun h => ⟨?_, h.1⟩⟩
        refine (lastIn_of hp h.2 fun j hj hjk => ?_).symm
        cases hin : inAll zs n W H x y j
        · rfl
        · exfalso
          have hanc : anc zs p j = true := hL.between (i := k) (by omega) (by rw [anc_par e hp (by omega)]; exact anc_self _ _) (by omega) (by omega)
          obtain ⟨c, hc1, hc2, hc3⟩ := anc_kid hanc (by omega)
          have hcj := anc_le hc3
          exact inB_apart hv hW hH hc1 e (by omega) (by omega) (inAll_in (inAll_anc hc3 hin)) h.1
    by_cases h : inAll zs n W H x y k = true
    · rw [if_pos (key.2 h), if_pos h]
    · rw [if_neg (fun h2 => h (key.1 h2)), if_neg h]
theorem hitA_yes (h : layOk n zs W H = true) : hitA zs n W H x y = lastIn zs n W H x y n := by
  obtain ⟨hv, hW, hH⟩ := layOk_iff.1 h
  unfold hitA
  rw [if_pos h]
  exact hit_eq hv hW hH n (Nat.le_refl _)
theorem hitA_no (h : layOk n zs W H = false) : hitA zs n W H x y = -1 := by unfold hitA; rw [if_neg (by rw [h]; decide)]
theorem inB_iR {i : Nat} (h : layOk n zs W H = true) (hi : i < n) : iR (layR zs n W H i).1 (layR zs n W H i).2.1 (layR zs n W H i).2.2.1 (layR zs n W H i).2.2.2 x y = inB zs n W H x y i := by
  obtain ⟨hv, hW, hH⟩ := layOk_iff.1 h
  unfold iR inB
  rw [lay_vR hv hW hH hi, Bool.true_and]
end
end Go.Proofs.Ytobnjagmakhgpaa

/- Plain facts on hits for their laws: when a point is on the screen; that no box directly in the box that is hit has the point. No condition. -/
namespace Go.Proofs.Ytobnjagmakhgpaa
open Go.RowKit

section
variable {zs : List Int} {n : Nat} {W H x y : Int}
theorem lay_screen (hv : vtB n zs = true) : layR zs n W H 0 = (0, 0, W, H) := lay_top (by have := (link_vt hv).root (by have := (vtB_iff.1 hv).1; omega); omega)
theorem inB_screen (hv : vtB n zs = true) : inB zs n W H x y 0 = decide (0 ≤ x ∧ x < W ∧ 0 ≤ y ∧ y < H) := by
  unfold inB hR
  rw [lay_screen hv]
  dsimp only
  exact decide_eq_decide.2 ⟨fun h => by omega, fun h => by omega⟩
theorem hit_lt (h : layOk n zs W H = true) : -1 ≤ hitA zs n W H x y ∧ hitA zs n W H x y < (n : Int) := by
  rw [hitA_yes h]; exact lastIn_lt n
/-- A point hits a box exactly if it is on the screen. -/
theorem hit_screen (h : layOk n zs W H = true) : hitA zs n W H x y = -1 ↔ ¬ (0 ≤ x ∧ x < W ∧ 0 ≤ y ∧ y < H) := by
  obtain ⟨hv, hW, hH⟩ := layOk_iff.1 h
  have hL := link_vt hv
  have n1 := (vtB_iff.1 hv).1
  have e0 : inAll zs n W H x y 0 = decide (0 ≤ x ∧ x < W ∧ 0 ≤ y ∧ y < H) := by
    rw [inAll_top (by have := hL.root (by omega); omega), inB_screen hv]
  rw [hitA_yes h]
  refine ⟨fun he hs => ?_, fun hs => lastIn_no fun j hj => ?_⟩
  · have h0 : inAll zs n W H x y 0 = true := by rw [e0]; exact decide_eq_true hs
    have key : ∀ k, 0 < k → lastIn zs n W H x y k ≠ -1 := fun k => by
      induction k with
      | zero => intro h; omega
      | succ k ih =>
        intro _ h1
        unfold lastIn at h1
        split at h1
        · omega
        · next h2 =>
          rcases Nat.eq_zero_or_pos k with h3 | h3
          · subst h3; exact h2 h0
          · exact ih h3 h1
    exact key n (by omega) he
  · cases hin : inAll zs n W H x y j
    · rfl
    · have := inAll_anc (hL.root_anc hj) hin
      rw [e0] at this
      exact absurd (of_decide_eq_true this) hs
theorem hit_in {k : Nat} (h : layOk n zs W H = true) (hk : hitA zs n W H x y = (k : Int)) : k < n ∧ inAll zs n W H x y k = true := by
  have h1 := hit_lt (x := x) (y := y) h
  rw [hk] at h1
  rw [hitA_yes h] at hk
  exact ⟨by omega, lastIn_in hk⟩
/-- No box directly in the box that is hit has the point. -/
theorem hit_inner {k j : Nat} (h : layOk n zs W H = true) (hk : hitA zs n W H x y = (k : Int)) (hj : j ∈ kidL zs n k) : inB zs n W H x y j = false := by
  obtain ⟨hv, hW, hH⟩ := layOk_iff.1 h
  obtain ⟨hk1, hk2⟩ := hit_in h hk
  obtain ⟨hjn, hjp⟩ := kid_mem.1 hj
  obtain ⟨_, hkj⟩ := (link_vt hv).not_kid hjn hjp
  rw [hitA_yes h] at hk
  cases hb : inB zs n W H x y j
  · rfl
  · have ha : inAll zs n W H x y j = true := by rw [inAll_par hjp hkj, hb, hk2]; rfl
    have key : ∀ m, j < m → (k : Int) < lastIn zs n W H x y m := fun m => by
      induction m with
      | zero => intro h; omega
      | succ m ih =>
        intro hm
        unfold lastIn
        split
        · omega
        · next h2 =>
          by_cases e : j = m
          · subst e; exact absurd ha h2
          · exact ih (by omega)
    have := key n hjn
    omega
end
end Go.Proofs.Ytobnjagmakhgpaa
