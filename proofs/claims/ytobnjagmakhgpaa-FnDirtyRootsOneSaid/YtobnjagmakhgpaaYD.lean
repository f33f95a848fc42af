/- Parts that belong together: PathM, Rev, PathI, PathS, PathC, PathP. Conditions: as each part says. -/
import Derived.Test.YtobnjagmakhgpaaZB
import Derived.Test.YtobnjagmakhgpaaZC
import Derived.RegionTactic
import Derived.BigRegion
import Derived.Test.YtobnjagmakhgpaaZF
import Derived.Test.YtobnjagmakhgpaaIsIn
/- Plain facts on the path from the first box of a tree to a box, on the innermost box around two boxes, and on the next leaf. No condition. -/
namespace Go.Proofs.Ytobnjagmakhgpaa
open Go.RowKit

theorem gdl {α : Type} {l : List α} {k : Nat} {d : α} (h : k < l.length) : l.getD k d = l[k] := by simp [h]
theorem gdg {α : Type} {l : List α} {k : Nat} {d : α} (h : l.length ≤ k) : l.getD k d = d := by simp [h]
theorem gd_app1 {α : Type} {l m : List α} {k : Nat} {d : α} (h : k < l.length) : (l ++ m).getD k d = l.getD k d := by
  rw [gdl (by rw [List.length_append]; omega), gdl h, List.getElem_append_left h]
theorem gd_app2 {α : Type} {l m : List α} {k : Nat} {d : α} (h : l.length ≤ k) : (l ++ m).getD k d = m.getD (k - l.length) d := by
  rcases Nat.lt_or_ge (k - l.length) m.length with h1 | h1
  · rw [gdl (by rw [List.length_append]; omega), gdl h1, List.getElem_append_right h]
  · rw [gdg (by rw [List.length_append]; omega), gdg h1]
/-- The boxes around a box, from outside to inside, and the box itself. -/
def pathL (zs : List Int) (i : Nat) : List Nat := if _h : 0 ≤ par zs i ∧ (par zs i).toNat < i then pathL zs (par zs i).toNat ++ [i] else [i]
termination_by i
decreasing_by omega
/-- The innermost box around a that is around b. -/
def comL (zs : List Int) (b a : Nat) : Nat := if anc zs a b = true then a else if _h : 0 ≤ par zs a ∧ (par zs a).toNat < a then comL zs b (par zs a).toNat else a
termination_by a
decreasing_by omega
section
variable {zs : List Int} {a b i j k p n x : Nat}
theorem path_par (h : par zs i = (p : Int)) (hp : p < i) : pathL zs i = pathL zs p ++ [i] := by
  rw [pathL, dif_pos ⟨by omega, by omega⟩, h, Int.toNat_natCast]
theorem path_top (h : ¬ (0 ≤ par zs i ∧ (par zs i).toNat < i)) : pathL zs i = [i] := by rw [pathL, dif_neg h]
theorem path_len (zs : List Int) (i : Nat) : (pathL zs i).length = dep zs i + 1 := by
  induction i using Nat.strongRecOn with
  | ind i ih =>
    rcases par_cases zs i with ⟨p, e, hp⟩ | h
    · rw [path_par e hp, dep_par e hp, List.length_append, ih p hp]; rfl
    · rw [path_top h, dep, dif_neg h]; rfl
theorem path_mem : x ∈ pathL zs i ↔ anc zs x i = true := by
  induction i using Nat.strongRecOn with
  | ind i ih =>
    rcases par_cases zs i with ⟨p, e, hp⟩ | h
    · rw [path_par e hp, List.mem_append, ih p hp, List.mem_singleton]
      by_cases hx : i = x
      · subst hx; simp [anc_self]
      · rw [anc_par e hp hx]
        constructor
        · rintro (h | h)
          · exact h
          · exact absurd h.symm hx
        · exact fun h => .inl h
    · rw [path_top h, List.mem_singleton]
      by_cases hx : i = x
      · subst hx; simp [anc_self]
      · rw [anc_top h hx]
        simp; omega
/-- The box at a place of the path: it is around the box, and as deep as its place. -/
theorem path_at {d : Nat} (hd : d < (pathL zs i).length) : anc zs ((pathL zs i).getD d 0) i = true ∧ dep zs ((pathL zs i).getD d 0) = d := by
  refine ⟨path_mem.1 (by rw [gdl hd]; exact List.getElem_mem hd), ?_⟩
  induction i using Nat.strongRecOn with
  | ind i ih =>
    rcases par_cases zs i with ⟨p, e, hp⟩ | h
    · have hl := path_len zs p
      rw [path_par e hp] at hd ⊢
      rw [List.length_append, List.length_singleton] at hd
      rcases Nat.lt_or_ge d (pathL zs p).length with h1 | h1
      · have h2 := ih p hp h1
        rw [gd_app1 h1]
        exact h2
      · obtain rfl : d = (pathL zs p).length := by omega
        rw [gd_app2 h1, Nat.sub_self, hl]
        exact dep_par e hp
    · rw [path_top h] at hd ⊢
      obtain rfl : d = 0 := by simpa using hd
      show dep zs i = 0
      rw [dep, dif_neg h]
/-- Two boxes around a box that are equally deep are one. -/
theorem anc_same (h1 : anc zs a i = true) (h2 : anc zs b i = true) (hd : dep zs a = dep zs b) : a = b := by
  rcases Nat.lt_trichotomy a b with h | h | h
  · have := anc_dep (anc_chain h1 h2 (by omega)) (by omega); omega
  · exact h
  · have := anc_dep (anc_chain h2 h1 (by omega)) (by omega); omega
theorem path_find (h : anc zs x i = true) : dep zs x < (pathL zs i).length ∧ (pathL zs i).getD (dep zs x) 0 = x := by
  have h1 : dep zs x < (pathL zs i).length := by
    rw [path_len]
    by_cases e : i = x
    · subst e; omega
    · have := anc_dep h e; omega
  have h2 := path_at h1
  exact ⟨h1, anc_same h2.1 h h2.2⟩
theorem path_last (zs : List Int) (i : Nat) : (pathL zs i).getD (dep zs i) 0 = i := (path_find (anc_self zs i)).2
theorem dep_root (h : Link zs n) (hn : 0 < n) : dep zs 0 = 0 := dep_top (by have := h.root hn; omega)
theorem path_first (h : Link zs n) (hi : i < n) : (pathL zs i).getD 0 0 = 0 := by
  have h1 := (path_find (h.root_anc hi)).2
  rwa [dep_root h (by omega)] at h1
/-- Each box of the path but the first one is directly in the box ahead of it. -/
theorem path_next (h : Link zs n) (hi : i < n) {d : Nat} (hd : d + 1 < (pathL zs i).length) : par zs ((pathL zs i).getD (d + 1) 0) = ((pathL zs i).getD d 0 : Nat) ∧ (pathL zs i).getD (d + 1) 0 < n := by
  obtain ⟨h1, h2⟩ := path_at hd
  obtain ⟨h3, h4⟩ := path_at (zs := zs) (i := i) (d := d) (by omega)
  generalize (pathL zs i).getD (d + 1) 0 = y at h1 h2 ⊢
  generalize (pathL zs i).getD d 0 = x at h3 h4 ⊢
  have hy := anc_le h1
  have y0 : 0 < y := by
    rcases Nat.eq_zero_or_pos y with e | e
    · subst e; rw [dep_root h (by omega)] at h2; omega
    · exact e
  obtain ⟨p, e, hp, _⟩ := h.up y y0 (by omega)
  have h5 := dep_par e hp
  have h6 : anc zs p y = true := by rw [anc_par e hp (by omega)]; exact anc_self _ _
  rw [e, anc_same (anc_trans h6 h1) h3 (by omega)]
  exact ⟨rfl, by omega⟩
theorem path_bd (hd : j < (pathL zs i).length) : (pathL zs i).getD j 0 ≤ i := anc_le (path_at hd).1
/-- What is around both boxes is around their common box. -/
theorem com_of (h : Link zs n) (ha : a < n) (hb : b < n) : anc zs (comL zs b a) a = true ∧ anc zs (comL zs b a) b = true ∧ ∀ x, anc zs x a = true → anc zs x b = true → anc zs x (comL zs b a) = true := by
  induction a using Nat.strongRecOn with
  | ind a ih =>
    rw [comL]
    by_cases hc : anc zs a b = true
    · rw [if_pos hc]
      exact ⟨anc_self _ _, hc, fun x hx _ => hx⟩
    · rw [if_neg hc]
      have a0 : 0 < a := by
        rcases Nat.eq_zero_or_pos a with e | e
        · subst e; exact absurd (h.root_anc hb) hc
        · exact e
      obtain ⟨p, e, hp, _⟩ := h.up a a0 ha
      rw [dif_pos ⟨by omega, by omega⟩, e, Int.toNat_natCast]
      obtain ⟨h1, h2, h3⟩ := ih p hp (by omega)
      refine ⟨?_, h2, fun x hx hxb => ?_⟩
      · have := anc_le h1
        rw [anc_par e hp (by omega)]; exact h1
      · refine h3 x ?_ hxb
        by_cases hxa : a = x
        · subst hxa; exact absurd hxb hc
        · rwa [anc_par e hp hxa] at hx
theorem com_step (hc : anc zs a b = false) (h : par zs a = (p : Int)) (hp : p < a) : comL zs b a = comL zs b p := by
  rw [comL, if_neg (by rw [hc]; simp), dif_pos ⟨by omega, by omega⟩, h, Int.toNat_natCast]
theorem com_end (hc : anc zs a b = true) : comL zs b a = a := by rw [comL, if_pos hc]
/-- The box at a place of a path is at the same place of the other one just where it is around both boxes. -/
theorem path_both {d : Nat} (hd : d < (pathL zs a).length) : (d < (pathL zs b).length ∧ (pathL zs b).getD d 0 = (pathL zs a).getD d 0) ↔ anc zs ((pathL zs a).getD d 0) b = true := by
  obtain ⟨h1, h2⟩ := path_at hd
  constructor
  · rintro ⟨h3, h4⟩
    rw [← h4]; exact (path_at h3).1
  · intro h3
    have h4 := path_find h3
    rw [h2] at h4
    exact h4
end
/-- The last of the first k numbers of a list that stands at the same place of another. -/
def comK (A B : List Int) : Nat → Int
  | 0 => -1
  | k + 1 => if k < B.length ∧ B.getD k 0 = A.getD k 0 then A.getD k 0 else comK A B k
theorem comK_hit {A B : List Int} {k : Nat} (h : k < B.length ∧ B.getD k 0 = A.getD k 0) : comK A B (k + 1) = A.getD k 0 := by rw [comK, if_pos h]
theorem comK_no {A B : List Int} {k : Nat} (h : ¬ (k < B.length ∧ B.getD k 0 = A.getD k 0)) : comK A B (k + 1) = comK A B k := by rw [comK, if_neg h]
theorem comK_nil (A : List Int) (k : Nat) : comK A [] k = -1 := by
  induction k with
  | zero => rfl
  | succ k ih => rw [comK_no (by simp), ih]
theorem getD_map (l : List Nat) (k : Nat) : (l.map Int.ofNat).getD k 0 = ((l.getD k 0 : Nat) : Int) := by
  rcases Nat.lt_or_ge k l.length with h | h
  · rw [gdl (by simpa using h), gdl h]; simp
  · rw [gdg (by simpa using h), gdg h]; rfl
section
variable {zs : List Int} {a b n : Nat}
theorem comK_path (h : Link zs n) (ha : a < n) (hb : b < n) (k : Nat) (hk : k < (pathL zs a).length) :
    comK ((pathL zs a).map Int.ofNat) ((pathL zs b).map Int.ofNat) (k + 1) = if k ≤ dep zs (comL zs b a) then ((pathL zs a).getD k 0 : Nat) else (comL zs b a : Nat) := by
  obtain ⟨c1, c2, c3⟩ := com_of h ha hb
  have hit : ∀ d, d < (pathL zs a).length → ((d < ((pathL zs b).map Int.ofNat).length ∧ ((pathL zs b).map Int.ofNat).getD d 0 = ((pathL zs a).map Int.ofNat).getD d 0) ↔ d ≤ dep zs (comL zs b a)) := fun d hd => by
    rw [getD_map, getD_map, List.length_map]
    have e : ((((pathL zs b).getD d 0 : Nat) : Int) = (((pathL zs a).getD d 0 : Nat) : Int)) ↔ (pathL zs b).getD d 0 = (pathL zs a).getD d 0 := by omega
    rw [e, path_both hd]
    obtain ⟨h1, h2⟩ := path_at hd
    constructor
    · intro h3
      have h4 := c3 _ h1 h3
      by_cases hx : comL zs b a = (pathL zs a).getD d 0
      · rw [hx]; omega
      · have := anc_dep h4 hx; omega
    · intro h3
      refine anc_trans ?_ c2
      rcases Nat.lt_or_ge (comL zs b a) ((pathL zs a).getD d 0) with h4 | h4
      · have := anc_dep (anc_chain c1 h1 (by omega)) (by omega); omega
      · exact anc_chain h1 c1 h4
  induction k with
  | zero =>
    have := (hit 0 hk).2 (Nat.zero_le _)
    rw [comK_hit this, if_pos (Nat.zero_le _), getD_map]
  | succ k ih =>
    by_cases hc : k + 1 ≤ dep zs (comL zs b a)
    · rw [comK_hit ((hit _ hk).2 hc), if_pos hc, getD_map]
    · rw [comK_no (fun h2 => hc ((hit _ hk).1 h2)), if_neg hc, ih (by omega)]
      split
      · next h2 =>
        have h3 : dep zs (comL zs b a) = k := by omega
        rw [← h3, (path_find c1).2]
      · rfl
theorem comK_all (h : Link zs n) (ha : a < n) (hb : b < n) : comK ((pathL zs a).map Int.ofNat) ((pathL zs b).map Int.ofNat) (pathL zs a).length = (comL zs b a : Nat) := by
  have h1 := path_len zs a
  have c := (com_of h ha hb).1
  have hd : dep zs (comL zs b a) ≤ dep zs a := by
    by_cases e : a = comL zs b a
    · rw [← e]; exact Nat.le_refl _
    · have := anc_dep c e; omega
  rw [h1, comK_path h ha hb (dep zs a) (by omega)]
  split
  · next h2 =>
    have h3 : dep zs (comL zs b a) = dep zs a := by omega
    rw [← h3, (path_find c).2]
  · rfl
end
/-- The first leaf behind a box, from the step t on. -/
def nlf (zs : List Int) (n i t : Nat) : Int := if _h : t < n then (if knd zs ((i + 1 + t) % n) = 0 then (((i + 1 + t) % n : Nat) : Int) else nlf zs n i (t + 1)) else -1
termination_by n - t
decreasing_by omega
theorem nlf_hit {zs : List Int} {n i t : Nat} (h : t < n) (hk : knd zs ((i + 1 + t) % n) = 0) : nlf zs n i t = (((i + 1 + t) % n : Nat) : Int) := by rw [nlf, dif_pos h, if_pos hk]
theorem nlf_go {zs : List Int} {n i t : Nat} (h : t < n) (hk : knd zs ((i + 1 + t) % n) ≠ 0) : nlf zs n i t = nlf zs n i (t + 1) := by rw [nlf, dif_pos h, if_neg hk]
theorem nlf_end {zs : List Int} {n i t : Nat} (h : n ≤ t) : nlf zs n i t = -1 := by rw [nlf, dif_neg (by omega)]
end Go.Proofs.Ytobnjagmakhgpaa

/- slices.Reverse of a list of numbers that lies in a block of the call's own, walked; of a list without numbers. Conditions: the list is short. -/
namespace Go.Proofs.Ytobnjagmakhgpaa
open Go.RowKit

theorem gd_lt {α : Type} {l : List α} {k : Nat} {d : α} (h : k < l.length) : l.getD k d = l[k] := by simp [h]
theorem gd_ge {α : Type} {l : List α} {k : Nat} {d : α} (h : l.length ≤ k) : l.getD k d = d := by simp [h]
theorem Row.drew {w : World} {g : Nat} {zs : List Int} (h : Row w g zs) : Row w.drew g zs := ⟨h.lt, h.c, h.f⟩
theorem rev_getD (zs : List Int) (t : Nat) (ht : t < zs.length) : zs.reverse.getD t 0 = zs.getD (zs.length - 1 - t) 0 := by
  rw [gd_lt (by simpa using ht), gd_lt (by omega), List.getElem_reverse]
theorem ext_getD {xs ys : List Int} (hl : xs.length = ys.length) (h : ∀ t, t < xs.length → xs.getD t 0 = ys.getD t 0) : xs = ys := by
  refine List.ext_getElem hl fun t h1 h2 => ?_
  have := h t h1
  rwa [gd_lt h1, gd_lt h2] at this
/-- The first k and the last k of n numbers have changed their places. -/
structure Turned (n k : Nat) (zs ys : List Int) : Prop where
  len : ys.length = n
  at_ : ∀ t, t < n → ys.getD t 0 = if t < k ∨ n ≤ t + k then zs.getD (n - 1 - t) 0 else zs.getD t 0
theorem Turned.start {n : Nat} {zs : List Int} (hz : zs.length = n) : Turned n 0 zs zs := ⟨hz, fun t ht => by rw [if_neg (by omega)]⟩
theorem Turned.step {n k : Nat} {zs ys : List Int} (h : Turned n k zs ys) (hk : k + k + 1 < n) : Turned n (k + 1) zs ((ys.set k (ys.getD (n - 1 - k) 0)).set (n - 1 - k) (ys.getD k 0)) := by
  refine ⟨by rw [List.length_set, List.length_set, h.len], fun t ht => ?_⟩
  rw [getD_set _ _ _ _ (by rw [List.length_set, h.len]; exact ht), getD_set _ _ _ _ (by rw [h.len]; exact ht)]
  by_cases h1 : n - 1 - k = t
  · subst h1
    rw [if_pos rfl, if_pos (by omega), h.at_ k (by omega), if_neg (by omega)]
    congr 1
    omega
  · rw [if_neg h1]
    by_cases h2 : k = t
    · subst h2
      rw [if_pos rfl, if_pos (by omega), h.at_ (n - 1 - k) (by omega), if_neg (by omega)]
    · rw [if_neg h2, h.at_ t ht]
      by_cases h3 : t < k ∨ n ≤ t + k
      · rw [if_pos h3, if_pos (by omega)]
      · rw [if_neg h3, if_neg (by omega)]
theorem Turned.all {n k : Nat} {zs ys : List Int} (h : Turned n k zs ys) (hz : zs.length = n) (hk : n ≤ k + k + 1) : ys = zs.reverse := by
  refine ext_getD (by rw [h.len, List.length_reverse, hz]) fun t ht => ?_
  rw [h.len] at ht
  rw [h.at_ t ht, rev_getD zs t (by omega), hz]
  split
  · rfl
  · next h1 =>
    have : n - 1 - t = t := by omega
    rw [this]
set_option maxHeartbeats 1600000 in
theorem Reverse_any (g n c : Nat) (zs : List Int) (hz : zs.length = n) (hn : n ≤ 1000000) (w : World) (h : Row w g zs) :
    Calls Try.prog 68 #[.slice (some ⟨g, 0, none⟩) n c] w fun e w' => e = .returned (.tuple #[]) ∧ Row w' g zs.reverse ∧ w.grownBy w' (some g) := by
  have HR := Lib.hid h
  have HZ := Lib.hid hz
  clear h hz
  go_enter Try.func68, Try.ntmps68
  go_wp2
  go_loopw [2, 3] (fun i j wr => ∃ (k : Nat) (jz : Int) (ys : List Int), i = .int .i64 k ∧ j = .int .i64 jz ∧ jz ≤ (n : Int) - 1 - k ∧ (n : Int) - 1 - k ≤ jz ∧ k ≤ n ∧ Hid (Turned n k zs ys) ∧ Hid (Row wr g ys) ∧ Hid (w.grownBy wr (some g))) (fun i _ _ => n - (intOf i).toNat)
  case atStart => exact ⟨0, (n : Int) - 1, zs, rfl, rfl, by omega, by omega, Nat.zero_le _, Lib.hid (Turned.start HZ.out), HR, Lib.hid (World.grownBy.refl _ _)⟩
  case round =>
    obtain ⟨k, jz, ys, rfl, rfl, j1, j2, hk, HT, HY, HG⟩ := hrel
    have k0 : (0 : Int) ≤ (k : Int) := by omega
    by_cases hlt : k + k + 1 < n
    · obtain ⟨jn, rfl⟩ : ∃ jn : Nat, jz = (jn : Int) := ⟨n - 1 - k, by omega⟩
      have ej : n - 1 - k = jn := by omega
      have HS := HT.out.step hlt
      rw [ej] at HS
      replace HS := Lib.hid HS
      have e1 := HY.out.c k (by rw [HT.out.len]; omega)
      have e2 := HY.out.c jn (by rw [HT.out.len]; omega)
      have f1 := HY.out.f k (by rw [HT.out.len]; omega)
      have f2 := HY.out.f jn (by rw [HT.out.len]; omega)
      have RS := Lib.hid ((((HY.out.drew).set_ (k := k) (by rw [HT.out.len]; omega) (ys.getD jn 0)).set_ (k := jn) (by rw [List.length_set, HT.out.len]; omega) (ys.getD k 0)))
      have GS := Lib.hid (own_set (own_set (only_drew HG.out) (g := g) (k := k) (.int .i64 (ys.getD jn 0))) (k := jn) (.int .i64 (ys.getD k 0)))
      have c1 : (k : Int) < (jn : Int) := by omega
      have c2 : (jn : Int) < (n : Int) := by omega
      have c3 : (k : Int) < (n : Int) := by omega
      clear hlt j1 j2
      generalize ys.getD jn 0 = z2 at e2 RS GS HS
      generalize ys.getD k 0 = z1 at e1 RS GS HS
      go_wp2_with fail
      go_region
      go_wp2
      go_roundw
      case rel => exact ⟨k + 1, (jn : Int) - 1, _, by go_num, rfl, by omega, by omega, by omega, HS, RS, GS⟩
      case measure => simp [intOf]; omega
    · have EY := Lib.hid (HT.out.all HZ.out (by omega))
      have c1 : jz ≤ (k : Int) := by omega
      clear j1 j2
      go_wp2
      go_end0
      exact ⟨rfl, by rw [← EY.out]; exact HY.out, HG.out⟩
set_option maxHeartbeats 400000 in
theorem ReverseNone_any (A : Option Addr) (c : Nat) (w : World) :
    Calls Try.prog 68 #[.slice A 0 c] w fun e w' => e = .returned (.tuple #[]) ∧ w = w' := by
  go_enter Try.func68, Try.ntmps68
  go_wp2
  go_loopw [2, 3] (fun i j wr => i = .int .i64 0 ∧ j = .int .i64 (-1) ∧ wr = w) (fun _ _ _ => 0)
  case atStart => exact ⟨rfl, rfl, rfl⟩
  case round =>
    obtain ⟨rfl, rfl, rfl⟩ := hrel
    go_wp2
    go_end0
    exact ⟨rfl, rfl⟩
end Go.Proofs.Ytobnjagmakhgpaa

/- PathTo, CommonBox and NextLeaf of the program, walked. Condition: the tree can be read. -/
namespace Go.Proofs.Ytobnjagmakhgpaa
open Go.RowKit

def pathA (n : Nat) (zs : List Int) (at_ : Int) : List Int := if nodeOk n zs at_ = true then (pathL zs at_.toNat).map Int.ofNat else []
def comA (n : Nat) (zs : List Int) (a b : Int) : Int := if (nodeOk n zs a && nodeOk n zs b) = true then (comL zs b.toNat a.toNat : Nat) else -1
def nlA (n : Nat) (zs : List Int) (at_ : Int) : Int := if nodeOk n zs at_ = true then nlf zs n at_.toNat 0 else -1
def pathO (zs : List Int) : Option Nat → List Nat
  | none => []
  | some j => pathL zs j
theorem pathA_no {n : Nat} {zs : List Int} {a : Int} (h : nodeOk n zs a = false) : pathA n zs a = [] := by unfold pathA; rw [h]; rfl
theorem pathA_at {n a : Nat} {zs : List Int} (hv : vtB n zs = true) (ha : a < n) : pathA n zs (a : Int) = (pathL zs a).map Int.ofNat := by
  unfold pathA; rw [if_pos (nodeOk_iff.2 ⟨hv, a, rfl, ha⟩), Int.toNat_natCast]
theorem path_le {zs : List Int} {n a : Nat} (ha : a < n) (hn : n ≤ 16) : (pathL zs a).length ≤ 16 := by
  have h1 := dep_le zs a
  rw [path_len]; omega
theorem pathA_len (n : Nat) (zs : List Int) (at_ : Int) : (pathA n zs at_).length ≤ 16 := by
  unfold pathA
  split
  · next h =>
    obtain ⟨h1, i, rfl, hi⟩ := nodeOk_iff.1 h
    rw [List.length_map, Int.toNat_natCast]
    exact path_le hi (vtB_iff.1 h1).1.2
  · exact Nat.zero_le _
/-- Behind a node the path goes on to the node around it. -/
theorem Lnk.path_step {lo : Nat} {w : World} {nb : Nat → Nat} {zs : List Int} {k i : Nat} {ar fi la ne : Nat → Option Nat} (h : Lnk lo w nb zs k ar fi la ne) (hi : i < k) : pathL zs i = pathO zs (ar i) ++ [i] := by
  rw [h.ar i hi]
  rcases Nat.eq_zero_or_pos i with h0 | h0
  · subst h0
    rw [if_pos rfl]
    exact path_top (by have := h.lk.root (by omega); omega)
  · obtain ⟨p, e, hp, _⟩ := h.lk.up i h0 hi
    rw [if_neg (by omega), path_par e hp, e]
    simp [pathO]
/-- An answer that is a row of its own, with its room. -/
def AnsN (w : World) (zs : List Int) (e : Ending) (w' : World) : Prop :=
  ∃ (A : Option Addr) (n c : Nat), e = .returned (.slice A n c) ∧ zs.length = n ∧ n ≤ c ∧ Res w.heap.size w'.heap.size w' A zs ∧ New w w'
theorem AnsN.ans {w w' : World} {zs : List Int} {e : Ending} (h : AnsN w zs e w') : Ans w zs e w' := by
  obtain ⟨A, n, c, h1, h2, _, h3, h4⟩ := h
  exact ⟨A, n, c, h1, h2, h3, h4⟩
set_option maxHeartbeats 1600000 in
theorem PathTo_ansN (A : Option Addr) (n c : Nat) (zs : List Int) (at_ : Int) (hn : n ≤ 1048576) (w : World) (hx : Sts 9 w A n zs) :
    Calls Try.prog 34 #[.slice A n c, .int .i64 at_] w (AnsN w (pathA n zs at_)) := by
  cases hok : nodeOk n zs at_
  · have E1 := Lib.hid (pathA_no hok)
    have CT := Lib.hid (nodeAt_no A n c zs at_ hn hok w hx)
    clear hok hx
    go_enter Try.func34, Try.ntmps34
    go_wp2_with fail
    refine CT.out.mono ?_
    rintro e w1 ⟨rfl, h1⟩
    have N1 := Lib.hid h1
    clear h1
    go_wp2
    go_loopw [5, 6] (fun v p wr => v = .slice none 0 0 ∧ p = .pointer none ∧ wr = w1) (fun _ _ _ => 0)
    case atStart => exact ⟨rfl, rfl, rfl⟩
    case round =>
      obtain ⟨rfl, rfl, rfl⟩ := hrel
      go_wp2_with (go_at_call 68; refine (ReverseNone_any _ _ _).mono ?_; rintro e w' ⟨rfl, rfl⟩)
      go_ret
      rw [E1.out]
      exact ⟨none, 0, 0, rfl, rfl, Nat.le_refl _, Res.nil _ _ _, N1.out⟩
  · obtain ⟨hv, i, rfl, hi⟩ := nodeOk_iff.1 hok
    have hn16 := (vtB_iff.1 hv).1
    have E1 := Lib.hid (pathA_at hv hi)
    have CT := Lib.hid (nodeAt_yes A n c i zs hv hi w hx)
    have PL := Lib.hid (path_le (zs := zs) hi hn16.2)
    clear hok hx hv
    go_enter Try.func34, Try.ntmps34
    go_wp2_with fail
    refine CT.out.mono ?_
    rintro e w1 ⟨h1, nb, ar, fi, la, ne, rfl, h2⟩
    have N1 := Lib.hid h1; have HL := Lib.hid h2
    clear h1 h2
    go_wp2
    go_loopw [5, 6] (fun v p wr => ∃ (o : Option Nat) (acc : List Nat), p = pv nb o ∧ Hid (∀ j, o = some j → j < n) ∧ Hid (pathO zs o ++ acc.reverse = pathL zs i) ∧ Hid (Own w1.heap.size wr v (acc.map Int.ofNat)) ∧ Hid (New w1 wr)) (fun _ p wr => numOf wr p)
    case atStart => exact ⟨some i, [], rfl, Lib.hid (fun j hj => by have := Option.some.inj hj; omega), Lib.hid (by simp [pathO]), Lib.hid (Own.nil _ _), Lib.hid (New.refl _)⟩
    case round =>
      obtain ⟨o, acc, rfl, ro, HP, HO, HN⟩ := hrel
      cases o with
      | none =>
        simp only [pv_none]
        have ep : acc.reverse = pathL zs i := HP.out
        rcases HO.out.form with ⟨_, e0⟩ | ⟨g, cap, rfl, hg, hR, hc, _⟩
        · exfalso
          have h1 : acc = [] := by simpa using e0
          subst h1
          have h2 := path_len zs i
          rw [← ep] at h2
          simp at h2
        · have la : (acc.map Int.ofNat).length = acc.length := List.length_map _
          rw [la]
          have al : acc.length ≤ 16 := by have := PL.out; rw [← ep, List.length_reverse] at this; exact this
          have HR := Lib.hid hR
          have EP := Lib.hid ep
          have LA := Lib.hid la
          clear hR ep la HO
          go_wp2_with (go_at_call 68; refine (Reverse_any g acc.length cap _ LA.out (by omega) _ HR.out).mono ?_; rintro e w2 ⟨rfl, R2, G2⟩; (have R2 := Lib.hid R2); (have N2 := Lib.hid (new_only HN.out hg G2)); clear G2)
          go_ret
          rw [E1.out]
          have HC := Lib.hid hc
          refine ⟨_, acc.length, cap, rfl, ?_, (by have h := HC.out; rw [LA.out] at h; exact h), ?_, N1.out.trans N2.out⟩
          · rw [← EP.out]; simp
          · rw [← EP.out, List.map_reverse]; exact Res.of_row R2.out (Nat.le_trans N1.out.le hg)
      | some j =>
        have hj := ro.out j rfl
        have HNd := HL.out.nd.new HN.out
        have g1 := HNd.ar j hj
        have g2 := HNd.num j hj
        have nj := HNd.numOf_some hj
        have R1 := Lib.hid (fun j' hj' => HL.out.rg.ar j j' hj hj')
        have PS := Lib.hid (show pathO zs (ar j) ++ (acc ++ [j]).reverse = pathL zs i by
          have h1 := HP.out
          have h2 := HL.out.path_step hj
          simp only [pathO] at h1
          rw [List.reverse_append, List.reverse_cons, List.reverse_nil, List.nil_append, ← List.append_assoc, ← h2]
          exact h1)
        have LD : Hid (acc.length ≤ 16) := Lib.hid (by have h1 := PL.out; rw [← HP.out, List.length_append, List.length_reverse] at h1; omega)
        have ns : ∀ w6, New w1 w6 → numOf w6 (pv nb (ar j)) < j + 1 := fun w6 N6 => by
          rw [HL.out.ar j hj]
          rcases Nat.eq_zero_or_pos j with h0 | h0
          · subst h0; rw [if_pos rfl]; exact Nat.succ_pos _
          · obtain ⟨p, e, hp, _⟩ := HL.out.lk.up j h0 hj
            rw [if_neg (by omega), e]
            have := (HL.out.nd.new N6).numOf_some (i := p) (by omega)
            simp only [pv_some, Int.toNat_natCast]
            omega
        have NS := Lib.hid ns
        have sz := HN.out.le
        have CA := Lib.hid (fun w6 (N6 : New w1 w6) => (HL.out.nd.new N6).ar j hj)
        simp only [pv_some]
        have j0 : (0 : Int) ≤ (j : Int) := by omega
        clear HNd ns HP
        go_wp2_with (at_builtin; refine wp_app rfl _ _ rfl w1.heap.size _ _ rfl (HO.out.alloc _) (some ⟨wr.heap.size, 0, none⟩) 1 1 [(j : Int)] rfl (Ints.one wr _ _) (by have := LD.out; rw [List.length_map]; omega) (by simp; omega) ?_; intro v6 w6 O6 G6; (have N6 := Lib.hid (new_own (HN.out.alloc _) G6 (HO.out.alloc _) (Nat.le_refl _))); (have g3 := CA.out w6 N6.out); (have O6 := Lib.hid O6); clear G6)
        go_roundw
        case rel => exact ⟨ar j, acc ++ [j], rfl, R1, PS, Lib.hid (by rw [List.map_append]; exact O6.out), N6⟩
        case measure => rw [nj]; exact NS.out w6 N6.out
theorem PathTo_ans (A : Option Addr) (n c : Nat) (zs : List Int) (at_ : Int) (hn : n ≤ 1048576) (w : World) (hx : Sts 9 w A n zs) :
    Calls Try.prog 34 #[.slice A n c, .int .i64 at_] w (Ans w (pathA n zs at_)) := (PathTo_ansN A n c zs at_ hn w hx).mono fun _ _ h => h.ans
end Go.Proofs.Ytobnjagmakhgpaa

/- PathTo, CommonBox and NextLeaf of the reference, and CommonBox and NextLeaf of the program, walked. Condition: the tree can be read. -/
namespace Go.Proofs.Ytobnjagmakhgpaa
open Go.RowKit

theorem Own.one {lo : Nat} (w : World) (z : Int) (hl : lo ≤ w.heap.size) : Own lo (w.alloc (.cells #[.int .i64 z] 3)) (.slice (some ⟨w.heap.size, 0, none⟩) 1 1) [z] :=
  ⟨rfl, .inr ⟨w.heap.size, 1, #[.int .i64 z], rfl, hl, heap_alloc_new w _, Nat.le_refl _, by unfold maxLen; omega, rfl, rfl⟩⟩
theorem Own.mono {lo lo' : Nat} {w : World} {v : Value} {zs : List Int} (h : Own lo w v zs) (hl : lo' ≤ lo) : Own lo' w v zs := by
  refine ⟨h.1, ?_⟩
  rcases h.2 with hn | ⟨g, cap, cur, hv, hg, hh, hc, hm, hs, ht⟩
  · exact .inl hn
  · exact .inr ⟨g, cap, cur, hv, Nat.le_trans hl hg, hh, hc, hm, hs, ht⟩
end Go.Proofs.Ytobnjagmakhgpaa

/- CommonBox of the program and of the reference, walked. Condition: the tree can be read. -/
namespace Go.Proofs.Ytobnjagmakhgpaa
open Go.RowKit

theorem comK_comA (n : Nat) (zs : List Int) (a b : Int) : comK (pathA n zs a) (pathA n zs b) (pathA n zs a).length = comA n zs a b := by
  cases ha : nodeOk n zs a
  · rw [pathA_no ha]; unfold comA; rw [ha]; rfl
  · cases hb : nodeOk n zs b
    · rw [pathA_no hb, comK_nil]; unfold comA; rw [hb, Bool.and_false]; rfl
    · obtain ⟨hv, i, rfl, hi⟩ := nodeOk_iff.1 ha
      obtain ⟨_, j, rfl, hj⟩ := nodeOk_iff.1 hb
      rw [pathA_at hv hi, pathA_at hv hj, List.length_map, comK_all (link_vt hv) hi hj]
      unfold comA
      rw [ha, hb, Int.toNat_natCast, Int.toNat_natCast]; rfl
end Go.Proofs.Ytobnjagmakhgpaa

/- Plain facts for the laws of paths, common boxes and next leaves. No condition. -/
namespace Go.Proofs.Ytobnjagmakhgpaa
open Go.RowKit

section
variable {zs : List Int} {a b i j k n p t x : Nat}
theorem pathA_size (hv : vtB n zs = true) (ha : a < n) : (pathA n zs (a : Int)).length = dep zs a + 1 := by rw [pathA_at hv ha, List.length_map, path_len]
theorem inL_path (zs : List Int) (a j : Nat) : inL ((pathL zs a).map Int.ofNat) j = anc zs j a := by
  unfold inL
  rw [Bool.eq_iff_iff, decide_eq_true_eq, ← path_mem, List.mem_map]
  constructor
  · rintro ⟨y, hy, e⟩
    obtain rfl : y = j := by have : (y : Int) = (j : Int) := e; omega
    exact hy
  · exact fun h => ⟨j, h, rfl⟩
theorem comA_at (hv : vtB n zs = true) (ha : a < n) (hb : b < n) : comA n zs (a : Int) (b : Int) = (comL zs b a : Nat) := by
  unfold comA; rw [nodeOk_iff.2 ⟨hv, a, rfl, ha⟩, nodeOk_iff.2 ⟨hv, b, rfl, hb⟩, Int.toNat_natCast, Int.toNat_natCast]; rfl
theorem com_lt (h : Link zs n) (ha : a < n) (hb : b < n) : comL zs b a < n := by have := anc_le (com_of h ha hb).1; omega
theorem com_comm (h : Link zs n) (ha : a < n) (hb : b < n) : comL zs a b = comL zs b a := by
  obtain ⟨h1, h2, h3⟩ := com_of h ha hb
  obtain ⟨k1, k2, k3⟩ := com_of h hb ha
  have e1 := anc_le (h3 _ k2 k1)
  have e2 := anc_le (k3 _ h2 h1)
  omega
theorem com_self (zs : List Int) (a : Nat) : comL zs a a = a := com_end (anc_self zs a)
theorem com_root (h : Link zs n) (hb : b < n) : comL zs b 0 = 0 := com_end (h.root_anc hb)
theorem com_is (h : Link zs n) (ha : a < n) (hb : b < n) : decide ((comL zs b a : Int) = (a : Int)) = anc zs a b := by
  rw [Bool.eq_iff_iff, decide_eq_true_eq]
  constructor
  · intro e
    have e2 : comL zs b a = a := by omega
    have h2 := (com_of h ha hb).2.1
    rwa [e2] at h2
  · intro h1; rw [com_end h1]
/-- No box directly in the common box is around both. -/
theorem com_kid (h : Link zs n) (ha : a < n) (hb : b < n) (hx : x ∈ kidL zs n (comL zs b a)) (h1 : anc zs x a = true) : anc zs x b = false := by
  cases h2 : anc zs x b
  · rfl
  · have h3 := anc_le ((com_of h ha hb).2.2 x h1 h2)
    have h4 := h.kid_in hx
    omega
/-- The last number of a list that is also in another one. -/
def lastK (A B : List Int) : Nat → Int
  | 0 => -1
  | k + 1 => if decide (A.getD k 0 ∈ B) = true then A.getD k 0 else lastK A B k
theorem lastK_path (zs : List Int) (a b k : Nat) (hk : k ≤ (pathL zs a).length) : lastK ((pathL zs a).map Int.ofNat) ((pathL zs b).map Int.ofNat) k = comK ((pathL zs a).map Int.ofNat) ((pathL zs b).map Int.ofNat) k := by
  induction k with
  | zero => rfl
  | succ k ih =>
    have h1 := path_both (b := b) (show k < (pathL zs a).length by omega)
    have h2 := inL_path zs b ((pathL zs a).getD k 0)
    unfold inL at h2
    rw [lastK, comK, ih (by omega), getD_map, getD_map, List.length_map, h2]
    by_cases hc : anc zs ((pathL zs a).getD k 0) b = true
    · have h3 := h1.2 hc
      rw [if_pos hc, if_pos ⟨h3.1, by rw [h3.2]⟩]
    · rw [if_neg hc, if_neg (fun h => hc (h1.1 ⟨h.1, by have := h.2; omega⟩))]
/-- What the next leaf is. -/
theorem nlf_spec (zs : List Int) (n i t : Nat) (ht : t ≤ n) : (nlf zs n i t = -1 ∧ ∀ s, t ≤ s → s < n → knd zs ((i + 1 + s) % n) ≠ 0) ∨
    ∃ u, t ≤ u ∧ u < n ∧ nlf zs n i t = (((i + 1 + u) % n : Nat) : Int) ∧ knd zs ((i + 1 + u) % n) = 0 ∧ ∀ s, t ≤ s → s < u → knd zs ((i + 1 + s) % n) ≠ 0 := by
  generalize hm : n - t = m
  induction m using Nat.strongRecOn generalizing t with
  | ind m ih =>
    rcases Nat.lt_or_ge t n with h | h
    · by_cases hk : knd zs ((i + 1 + t) % n) = 0
      · exact .inr ⟨t, Nat.le_refl _, h, nlf_hit h hk, hk, fun s h1 h2 => by omega⟩
      · rw [nlf_go h hk]
        rcases ih (n - (t + 1)) (by omega) (t + 1) (by omega) rfl with ⟨h1, h2⟩ | ⟨u, h1, h2, h3, h4, h5⟩
        · refine .inl ⟨h1, fun s hs hsn => ?_⟩
          rcases Nat.lt_or_ge t s with h6 | h6
          · exact h2 s (by omega) hsn
          · obtain rfl : s = t := by omega
            exact hk
        · refine .inr ⟨u, by omega, h2, h3, h4, fun s hs hsu => ?_⟩
          rcases Nat.lt_or_ge t s with h6 | h6
          · exact h5 s (by omega) hsu
          · obtain rfl : s = t := by omega
            exact hk
    · exact .inl ⟨nlf_end h, fun s h1 h2 => by omega⟩
/-- Every box is reached in fewer steps than there are boxes. -/
theorem step_to (hx : x < n) (i : Nat) : ∃ s, s < n ∧ (i + 1 + s) % n = x := by
  refine ⟨(x + n - (i + 1) % n) % n, Nat.mod_lt _ (by omega), ?_⟩
  have h1 : (i + 1) % n < n := Nat.mod_lt _ (by omega)
  rw [Nat.add_mod, Nat.mod_mod, ← Nat.add_mod]
  have h2 := Nat.mod_add_div (i + 1) n
  generalize hq : (i + 1) / n = q at h2
  generalize hr : (i + 1) % n = r at h1 h2 ⊢
  rw [← h2, show r + n * q + (x + n - r) = x + n * (q + 1) by rw [Nat.mul_add]; omega, Nat.add_mul_mod_self_left]
  exact Nat.mod_eq_of_lt hx
/-- There is no next leaf just if no box is a leaf. -/
theorem nlf_none (hn : 0 < n) : nlf zs n i 0 = -1 ↔ ∀ x, x < n → knd zs x ≠ 0 := by
  constructor
  · intro h x hx
    rcases nlf_spec zs n i 0 (Nat.zero_le _) with ⟨_, h2⟩ | ⟨u, _, _, h3, _⟩
    · obtain ⟨s, hs, e⟩ := step_to hx i
      have := h2 s (Nat.zero_le _) hs
      rwa [e] at this
    · rw [h3] at h; omega
  · intro h
    rcases nlf_spec zs n i 0 (Nat.zero_le _) with ⟨h1, _⟩ | ⟨u, _, _, _, h4, _⟩
    · exact h1
    · exact absurd h4 (h _ (Nat.mod_lt _ hn))
end
/-- How many of the first k boxes are leaves. -/
def cntL (zs : List Int) : Nat → Nat
  | 0 => 0
  | k + 1 => cntL zs k + if knd zs k = 0 then 1 else 0
section
variable {zs : List Int} {a b k n x y : Nat}
theorem cntL_leaf (h : knd zs k = 0) : cntL zs (k + 1) = cntL zs k + 1 := by rw [cntL, if_pos h]
theorem cntL_no (h : knd zs k ≠ 0) : cntL zs (k + 1) = cntL zs k := by rw [cntL, if_neg h]; rfl
theorem cntL_mono (h : a ≤ b) : cntL zs a ≤ cntL zs b := by
  induction b with
  | zero => obtain rfl : a = 0 := by omega
            exact Nat.le_refl _
  | succ b ih =>
    rcases Nat.lt_or_ge b a with h1 | h1
    · obtain rfl : a = b + 1 := by omega
      exact Nat.le_refl _
    · have := ih h1; rw [cntL]; omega
theorem cntL_flat (h : a ≤ b) (hk : ∀ z, a ≤ z → z < b → knd zs z ≠ 0) : cntL zs b = cntL zs a := by
  induction b with
  | zero => obtain rfl : a = 0 := by omega
            rfl
  | succ b ih =>
    rcases Nat.lt_or_ge b a with h1 | h1
    · obtain rfl : a = b + 1 := by omega
      rfl
    · rw [cntL_no (hk b h1 (by omega)), ih h1 fun z hz hzb => hk z hz (by omega)]
theorem cntL_lt (hx : x < n) (h : knd zs x = 0) : cntL zs x < cntL zs n := by
  have := cntL_leaf h
  have := cntL_mono (zs := zs) (show x + 1 ≤ n by omega)
  omega
/-- Leaves with as many leaves ahead of them are one. -/
theorem cntL_same (h1 : knd zs x = 0) (h2 : knd zs y = 0) (h : cntL zs x = cntL zs y) : x = y := by
  rcases Nat.lt_trichotomy x y with h3 | h3 | h3
  · have := cntL_lt h3 h1; omega
  · exact h3
  · have := cntL_lt h3 h2; omega
/-- The next leaf of a leaf has one leaf more ahead of it, or is the first one. -/
theorem nlf_leaf (hx : x < n) (h : knd zs x = 0) : ∃ y : Nat, nlf zs n x 0 = (y : Int) ∧ y < n ∧ knd zs y = 0 ∧ cntL zs y = if cntL zs x + 1 < cntL zs n then cntL zs x + 1 else 0 := by
  rcases nlf_spec zs n x 0 (Nat.zero_le _) with ⟨_, h2⟩ | ⟨u, _, hu, h3, h4, h5⟩
  · obtain ⟨s, hs, e⟩ := step_to hx x
    exact absurd h (by have := h2 s (Nat.zero_le _) hs; rwa [e] at this)
  · have hy : (x + 1 + u) % n < n := Nat.mod_lt _ (by omega)
    refine ⟨_, h3, hy, h4, ?_⟩
    have c1 := cntL_leaf h
    rcases Nat.lt_or_ge (x + 1 + u) n with h6 | h6
    · rw [Nat.mod_eq_of_lt h6] at h4 hy ⊢
      have c2 := cntL_flat (zs := zs) (show x + 1 ≤ x + 1 + u by omega) fun z hz hzu => by
        have := h5 (z - (x + 1)) (Nat.zero_le _) (by omega)
        rwa [show x + 1 + (z - (x + 1)) = z by omega, Nat.mod_eq_of_lt (by omega)] at this
      have c3 := cntL_lt hy h4
      rw [if_pos (by omega)]
      omega
    · have e : (x + 1 + u) % n = x + 1 + u - n := by rw [Nat.mod_eq_sub_mod h6, Nat.mod_eq_of_lt (by omega)]
      rw [e] at h4 hy ⊢
      have c2 := cntL_flat (zs := zs) (show x + 1 ≤ n by omega) fun z hz hzn => by
        have := h5 (z - (x + 1)) (Nat.zero_le _) (by omega)
        rwa [show x + 1 + (z - (x + 1)) = z by omega, Nat.mod_eq_of_lt (by omega)] at this
      have c3 := cntL_flat (zs := zs) (show 0 ≤ x + 1 + u - n by omega) fun z _ hzu => by
        have := h5 (z + n - (x + 1)) (Nat.zero_le _) (by omega)
        rwa [show x + 1 + (z + n - (x + 1)) = z + n by omega, Nat.add_mod_right, Nat.mod_eq_of_lt (by omega)] at this
      rw [if_neg (by omega), c3]
      rfl
end
theorem Ints.pref {w : World} {A : Option Addr} {n k : Nat} {xs : List Int} (h : Ints w A n xs) (hk : k ≤ n) : Ints w A k (xs.take k) := by
  refine ⟨by rw [List.length_take, h.len]; omega, fun h0 => ?_⟩
  obtain ⟨b, off, e, hb, hc⟩ := h.at_ (by omega)
  refine ⟨b, off, e, hb, fun i hi => ?_⟩
  rw [List.getD_eq_getElem?_getD, List.getElem?_take_of_lt hi, ← List.getD_eq_getElem?_getD]
  exact hc i (by omega)
end Go.Proofs.Ytobnjagmakhgpaa
