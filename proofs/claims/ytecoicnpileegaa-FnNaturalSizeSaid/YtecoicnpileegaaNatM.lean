/- Plain facts on the size that a box needs: how it comes from those of the boxes in it, and how large it is at most. No condition. -/
import Derived.Test.YtecoicnpileegaaTreeP
namespace Go.Proofs.Ytecoicnpileegaa
open Go.RowKit

def turnP (s : Int × Int) : Int × Int := (s.2, s.1)
def foldMx (l : List Int) : Int := l.foldl mx 0
/-- What sizes have together side by side. -/
def sbs (g : Int) (ss : List (Int × Int)) : Int × Int := (g * mx 0 ((ss.length : Int) - 1) + (ss.map Prod.fst).sum, foldMx (ss.map Prod.snd))
/-- What a box needs inside its pads. -/
def contP (k g wd ht : Int) (ss : List (Int × Int)) : Int × Int := if k = 0 then (wd, ht) else if k = 2 then sbs g ss else turnP (sbs g (ss.map turnP))
def natF : Nat → List Int → Nat → Nat → Int × Int
  | 0, _, _, _ => (0, 0)
  | f + 1, zs, n, i =>
    ((contP (knd zs i) (zs.getD (i * 9 + 5) 0) (zs.getD (i * 9 + 2) 0) (zs.getD (i * 9 + 3) 0) ((kidL zs n i).map (natF f zs n))).1 + 2 * zs.getD (i * 9 + 4) 0,
     (contP (knd zs i) (zs.getD (i * 9 + 5) 0) (zs.getD (i * 9 + 2) 0) (zs.getD (i * 9 + 3) 0) ((kidL zs n i).map (natF f zs n))).2 + 2 * zs.getD (i * 9 + 4) 0)
def natL (zs : List Int) (n i : Nat) : Int × Int := natF (n - i) zs n i
def contL (zs : List Int) (n i : Nat) : Int × Int := contP (knd zs i) (zs.getD (i * 9 + 5) 0) (zs.getD (i * 9 + 2) 0) (zs.getD (i * 9 + 3) 0) ((kidL zs n i).map (natL zs n))
section
variable {zs : List Int} {n i j k f : Nat}
theorem natF_stab (h : Link zs n) : ∀ (m i f : Nat), n - i = m → i < n → m ≤ f → natF f zs n i = natF m zs n i := by
  intro m
  induction m using Nat.strongRecOn with
  | ind m ih =>
    intro i f hm hi hf
    obtain ⟨g, rfl⟩ : ∃ g, m = g + 1 := ⟨m - 1, by omega⟩
    obtain ⟨f', rfl⟩ : ∃ f', f = f' + 1 := ⟨f - 1, by omega⟩
    have e : (kidL zs n i).map (natF f' zs n) = (kidL zs n i).map (natF g zs n) := List.map_congr_left fun j hj => by
      obtain ⟨_, h2, h3⟩ := h.kid_in hj
      rw [ih (n - j) (by omega) j f' rfl h3 (by omega), ih (n - j) (by omega) j g rfl h3 (by omega)]
    simp only [natF, e]
theorem nat_step (h : Link zs n) (hi : i < n) : natL zs n i = ((contL zs n i).1 + 2 * zs.getD (i * 9 + 4) 0, (contL zs n i).2 + 2 * zs.getD (i * 9 + 4) 0) := by
  unfold natL contL
  obtain ⟨g, hg⟩ : ∃ g, n - i = g + 1 := ⟨n - i - 1, by omega⟩
  have e : (kidL zs n i).map (natF g zs n) = (kidL zs n i).map (natL zs n) := List.map_congr_left fun j hj => by
    obtain ⟨_, h2, h3⟩ := h.kid_in hj
    exact natF_stab h (n - j) j g rfl h3 (by omega)
  rw [hg]
  simp only [natF, e]
theorem foldMx_snoc (l : List Int) (x : Int) : foldMx (l ++ [x]) = mx (foldMx l) x := by unfold foldMx; rw [List.foldl_append]; rfl
theorem foldl_mx_le {b : Int} : ∀ (l : List Int) (a : Int), a ≤ b → (∀ x ∈ l, x ≤ b) → l.foldl mx a ≤ b
  | [], _, h, _ => h
  | y :: l, a, h, hl => foldl_mx_le l (mx a y) (by have := hl y List.mem_cons_self; unfold mx; omega) fun x hx => hl x (List.mem_cons_of_mem _ hx)
theorem foldl_mx_ge : ∀ (l : List Int) (a : Int), a ≤ l.foldl mx a ∧ ∀ x ∈ l, x ≤ l.foldl mx a
  | [], a => ⟨Int.le_refl _, fun _ h => absurd h List.not_mem_nil⟩
  | y :: l, a => by
    obtain ⟨h1, h2⟩ := foldl_mx_ge l (mx a y)
    have h3 : a ≤ mx a y ∧ y ≤ mx a y := by unfold mx; omega
    refine ⟨Int.le_trans h3.1 h1, fun x hx => ?_⟩
    rcases List.mem_cons.1 hx with rfl | hx
    · exact Int.le_trans h3.2 h1
    · exact h2 x hx
theorem foldMx_ge (l : List Int) : 0 ≤ foldMx l ∧ ∀ x ∈ l, x ≤ foldMx l := foldl_mx_ge l 0
theorem foldMx_le {b : Int} (l : List Int) (h0 : 0 ≤ b) (h : ∀ x ∈ l, x ≤ b) : foldMx l ≤ b := foldl_mx_le l 0 h0 h
theorem sum_mono {f g : Nat → Int} : ∀ (l : List Nat), (∀ x ∈ l, f x ≤ g x) → (l.map f).sum ≤ (l.map g).sum
  | [], _ => Int.le_refl _
  | x :: l, h => by
    have h1 := sum_mono l fun y hy => h y (List.mem_cons_of_mem _ hy)
    have h2 := h x List.mem_cons_self
    simp only [List.map_cons, List.sum_cons]; omega
theorem sum_ge0 {f : Nat → Int} : ∀ (l : List Nat), (∀ x ∈ l, 0 ≤ f x) → 0 ≤ (l.map f).sum
  | [], _ => Int.le_refl _
  | x :: l, h => by
    have h1 := sum_ge0 l fun y hy => h y (List.mem_cons_of_mem _ hy)
    have h2 := h x List.mem_cons_self
    simp only [List.map_cons, List.sum_cons]; omega
theorem sum_mul (c : Int) (g : Nat → Int) : ∀ (l : List Nat), (l.map fun j => c * g j).sum = c * (l.map g).sum
  | [] => (by simp)
  | x :: l => by simp only [List.map_cons, List.sum_cons]; rw [sum_mul c g l, Int.mul_add]
/-- The boxes in the boxes directly in a box are all that are in it. -/
theorem kid_cover (h : Link zs n) (hi : i < n) : ∀ (rest done : List Nat), kidL zs n i = done ++ rest → (rest.map fun j => (en zs n j : Int) - (j : Int)).sum = (en zs n i : Int) - (rest.head?.getD (en zs n i) : Nat)
  | [], _, _ => (by simp)
  | j :: rest, done, e => by
    have h1 := kid_cover h hi rest (done ++ [j]) (by rw [e]; simp)
    have h2 := h.next_kid hi e
    simp only [List.map_cons, List.sum_cons, List.head?_cons, Option.getD_some]
    rw [h1, ← h2]; omega
theorem kid_sum (h : Link zs n) (hi : i < n) : ((kidL zs n i).map fun j => (en zs n j : Int) - (j : Int)).sum = (en zs n i : Int) - (i : Int) - 1 := by
  have h1 := kid_cover h hi (kidL zs n i) [] rfl
  rw [h1]
  have h2 := kid_first h hi
  cases hk : kidL zs n i with
  | nil => rw [hk] at h2; simp at h2; simp; omega
  | cons j r => rw [hk] at h2; simp at h2; simp; omega
theorem turn_fst (ss : List (Int × Int)) : (ss.map turnP).map Prod.fst = ss.map Prod.snd := by rw [List.map_map]; rfl
theorem turn_snd (ss : List (Int × Int)) : (ss.map turnP).map Prod.snd = ss.map Prod.fst := by rw [List.map_map]; rfl
/-- Sums and greatest of sizes that are bounded box by box. -/
theorem sbs_bd {g : Int} (hg : 0 ≤ g ∧ g ≤ 50) (l : List Nat) (hl : l.length ≤ 8) (f : Nat → Int × Int) (b : Nat → Int) (hb : ∀ j ∈ l, 0 ≤ (f j).1 ∧ (f j).1 ≤ 600 * b j ∧ 0 ≤ (f j).2 ∧ (f j).2 ≤ 600 * b j) :
    (0 ≤ (sbs g (l.map f)).1 ∧ (sbs g (l.map f)).1 ≤ 350 + 600 * (l.map b).sum) ∧ (0 ≤ (sbs g (l.map f)).2 ∧ (sbs g (l.map f)).2 ≤ 600 * (l.map b).sum) := by
  have hb0 : ∀ j ∈ l, 0 ≤ b j := fun j hj => by have := hb j hj; omega
  have s0 := sum_ge0 l hb0
  have h1 : ((l.map f).map Prod.fst).sum ≤ 600 * (l.map b).sum := by
    rw [List.map_map, ← sum_mul]
    exact sum_mono l fun j hj => (hb j hj).2.1
  have h2 : 0 ≤ ((l.map f).map Prod.fst).sum := by
    rw [List.map_map]
    exact sum_ge0 l fun j hj => (hb j hj).1
  have hm : 0 ≤ mx 0 (((l.map f).length : Int) - 1) ∧ mx 0 (((l.map f).length : Int) - 1) ≤ 7 := by rw [List.length_map]; unfold mx; omega
  have h3 : 0 ≤ g * mx 0 (((l.map f).length : Int) - 1) := Int.mul_nonneg hg.1 hm.1
  have h4 : g * mx 0 (((l.map f).length : Int) - 1) ≤ 350 := by
    have := Int.mul_le_mul hg.2 hm.2 hm.1 (by omega : (0 : Int) ≤ 50); omega
  have le_sum : ∀ (l : List Nat), (∀ j ∈ l, 0 ≤ b j) → ∀ j ∈ l, b j ≤ (l.map b).sum := by
    intro l
    induction l with
    | nil => intro _ j hj; cases hj
    | cons x l ih =>
      intro h0 j hj
      have s1 := sum_ge0 l fun y hy => h0 y (List.mem_cons_of_mem _ hy)
      have hx := h0 x List.mem_cons_self
      simp only [List.map_cons, List.sum_cons]
      rcases List.mem_cons.1 hj with rfl | hj
      · omega
      · have := ih (fun y hy => h0 y (List.mem_cons_of_mem _ hy)) j hj; omega
  unfold sbs
  refine ⟨⟨by omega, by omega⟩, (foldMx_ge _).1, foldMx_le _ (by omega) fun x hx => ?_⟩
  rw [List.map_map, List.mem_map] at hx
  obtain ⟨j, hj, rfl⟩ := hx
  have h5 := (hb j hj).2.2.2
  have h6 := le_sum l hb0 j hj
  show (f j).2 ≤ _
  omega
theorem nat_bd (hv : vtB n zs = true) (hi : i < n) : 0 ≤ (natL zs n i).1 ∧ (natL zs n i).1 ≤ 600 * ((en zs n i : Int) - (i : Int)) ∧ 0 ≤ (natL zs n i).2 ∧ (natL zs n i).2 ≤ 600 * ((en zs n i : Int) - (i : Int)) := by
  generalize hm : n - i = m
  induction m using Nat.strongRecOn generalizing i with
  | ind m ih =>
    have hL := link_vt hv
    obtain ⟨⟨k0, k1⟩, hw, hh, hp, hg, _⟩ := ((vtB_iff.1 hv).2 i hi).1
    have IH : ∀ j ∈ kidL zs n i, 0 ≤ (natL zs n j).1 ∧ (natL zs n j).1 ≤ 600 * ((en zs n j : Int) - (j : Int)) ∧ 0 ≤ (natL zs n j).2 ∧ (natL zs n j).2 ≤ 600 * ((en zs n j : Int) - (j : Int)) := fun j hj => by
      obtain ⟨_, h2, h3⟩ := hL.kid_in hj
      exact ih (n - j) (by omega) h3 rfl
    have IH2 : ∀ j ∈ kidL zs n i, 0 ≤ (turnP (natL zs n j)).1 ∧ (turnP (natL zs n j)).1 ≤ 600 * ((en zs n j : Int) - (j : Int)) ∧ 0 ≤ (turnP (natL zs n j)).2 ∧ (turnP (natL zs n j)).2 ≤ 600 * ((en zs n j : Int) - (j : Int)) := fun j hj => by
      have := IH j hj
      unfold turnP
      exact ⟨this.2.2.1, this.2.2.2, this.1, this.2.1⟩
    have s := kid_sum hL hi
    have b1 := sbs_bd hg (kidL zs n i) (kids_le hv) (natL zs n) (fun j => (en zs n j : Int) - (j : Int)) IH
    have b2 := sbs_bd hg (kidL zs n i) (kids_le hv) (fun j => turnP (natL zs n j)) (fun j => (en zs n j : Int) - (j : Int)) IH2
    rw [s] at b1 b2
    have eb := en_bd (zs := zs) hi
    rw [nat_step hL hi]
    unfold contL contP
    rw [List.map_map]
    have e2 : (kidL zs n i).map (turnP ∘ natL zs n) = (kidL zs n i).map fun j => turnP (natL zs n j) := rfl
    rw [e2]
    by_cases h0 : knd zs i = 0
    · rw [if_pos h0] at hw hh ⊢
      simp only
      omega
    · rw [if_neg h0]
      by_cases h2 : knd zs i = 2
      · rw [if_pos h2]
        simp only
        omega
      · rw [if_neg h2]
        simp only [turnP] at b2 ⊢
        omega
end
end Go.Proofs.Ytecoicnpileegaa
