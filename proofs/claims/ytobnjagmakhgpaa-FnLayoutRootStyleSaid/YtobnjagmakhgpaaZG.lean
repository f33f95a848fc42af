/- Parts that belong together: NatM, sizeS, sizeA. Conditions: as each part says. -/
import Derived.Test.YtobnjagmakhgpaaZF
import Derived.Test.YtobnjagmakhgpaaZA
import Derived.Test.YtobnjagmakhgpaaZC
/- Plain facts on the size that a box needs: how it comes from those of the boxes in it, and how large it is at most. No condition. -/
namespace Go.Proofs.Ytobnjagmakhgpaa
open Go.RowKit

def turnP (s : Int × Int) : Int × Int := (s.2, s.1)
def foldMx (l : List Int) : Int := l.foldl mx 0
/-- What sizes have together side by side. -/
def sbs (g : Int) (ss : List (Int × Int)) : Int × Int := (g * mx 0 ((ss.length : Int) - 1) + (ss.map Prod.fst).sum, foldMx (ss.map Prod.snd))
/-- What a box needs inside its pads. -/
def contP (k g wd ht : Int) (ss : List (Int × Int)) : Int × Int := if k = 0 then (wd, ht) else if k = 2 then sbs g ss else turnP (sbs g (ss.map turnP))
def natF : Nat → List Int → Nat → Nat → Int × Int
  | 0, _, _, _ => (0, 0)
  | f + 1, zs, n, i =>
    ((contP (knd zs i) (zs.getD (i * 9 + 5) 0) (zs.getD (i * 9 + 2) 0) (zs.getD (i * 9 + 3) 0) ((kidL zs n i).map (natF f zs n))).1 + 2 * zs.getD (i * 9 + 4) 0,
     (contP (knd zs i) (zs.getD (i * 9 + 5) 0) (zs.getD (i * 9 + 2) 0) (zs.getD (i * 9 + 3) 0) ((kidL zs n i).map (natF f zs n))).2 + 2 * zs.getD (i * 9 + 4) 0)
def natL (zs : List Int) (n i : Nat) : Int × Int := natF (n - i) zs n i
def contL (zs : List Int) (n i : Nat) : Int × Int := contP (knd zs i) (zs.getD (i * 9 + 5) 0) (zs.getD (i * 9 + 2) 0) (zs.getD (i * 9 + 3) 0) ((kidL zs n i).map (natL zs n))
section
variable {zs : List Int} {n i j k f : Nat}
theorem natF_stab (h : Link zs n) : ∀ (m i f : Nat), n - i = m → i < n → m ≤ f → natF f zs n i = natF m zs n i := by
  intro m
  induction m using Nat.strongRecOn with
  | ind m ih =>
    intro i f hm hi hf
    obtain ⟨g, rfl⟩ : ∃ g, m = g + 1 := ⟨m - 1, by omega⟩
    obtain ⟨f', rfl⟩ : ∃ f', f = f' + 1 := ⟨f - 1, by omega⟩
    have e : (kidL zs n i).map (natF f' zs n) = (kidL zs n i).map (natF g zs n) := List.map_congr_left fun j hj => by
      obtain ⟨_, h2, h3⟩ := h.kid_in hj
      rw [ih (n - j) (by omega) j f' rfl h3 (by omega), ih (n - j) (by omega) j g rfl h3 (by omega)]
    simp only [natF, e]
theorem nat_step (h : Link zs n) (hi : i < n) : natL zs n i = ((contL zs n i).1 + 2 * zs.getD (i * 9 + 4) 0, (contL zs n i).2 + 2 * zs.getD (i * 9 + 4) 0) := by
  unfold natL contL
  obtain ⟨g, hg⟩ : ∃ g, n - i = g + 1 := ⟨n - i - 1, by omega⟩
  have e : (kidL zs n i).map (natF g zs n) = (kidL zs n i).map (natL zs n) := List.map_congr_left fun j hj => by
    obtain ⟨_, h2, h3⟩ := h.kid_in hj
    exact natF_stab h (n - j) j g rfl h3 (by omega)
  rw [hg]
  simp only [natF, e]
theorem foldMx_snoc (l : List Int) (x : Int) : foldMx (l ++ [x]) = mx (foldMx l) x := by unfold foldMx; rw [List.foldl_append]; rfl
theorem foldl_mx_le {b : Int} : ∀ (l : List Int) (a : Int), a ≤ b → (∀ x ∈ l, x ≤ b) → l.foldl mx a ≤ b
  | [], _, h, _ => h
  | y :: l, a, h, hl => foldl_mx_le l (mx a y) (by have := hl y List.mem_cons_self; unfold mx; omega) fun x hx => hl x (List.mem_cons_of_mem _ hx)
theorem foldl_mx_ge : ∀ (l : List Int) (a : Int), a ≤ l.foldl mx a ∧ ∀ x ∈ l, x ≤ l.foldl mx a
  | [], a => ⟨Int.le_refl _, fun _ h => absurd h List.not_mem_nil⟩
  | y :: l, a => by
    obtain ⟨h1, h2⟩ := foldl_mx_ge l (mx a y)
    have h3 : a ≤ mx a y ∧ y ≤ mx a y := by unfold mx; omega
    refine ⟨Int.le_trans h3.1 h1, fun x hx => ?_⟩
    rcases List.mem_cons.1 hx with rfl | hx
    · exact Int.le_trans h3.2 h1
    · exact h2 x hx
theorem foldMx_ge (l : List Int) : 0 ≤ foldMx l ∧ ∀ x ∈ l, x ≤ foldMx l := foldl_mx_ge l 0
theorem foldMx_le {b : Int} (l : List Int) (h0 : 0 ≤ b) (h : ∀ x ∈ l, x ≤ b) : foldMx l ≤ b := foldl_mx_le l 0 h0 h
theorem sum_monoN {f g : Nat → Int} : ∀ (l : List Nat), (∀ x ∈ l, f x ≤ g x) → (l.map f).sum ≤ (l.map g).sum
  | [], _ => Int.le_refl _
  | x :: l, h => by
    have h1 := sum_monoN l fun y hy => h y (List.mem_cons_of_mem _ hy)
    have h2 := h x List.mem_cons_self
    simp only [List.map_cons, List.sum_cons]; omega
theorem sum_ge0 {f : Nat → Int} : ∀ (l : List Nat), (∀ x ∈ l, 0 ≤ f x) → 0 ≤ (l.map f).sum
  | [], _ => Int.le_refl _
  | x :: l, h => by
    have h1 := sum_ge0 l fun y hy => h y (List.mem_cons_of_mem _ hy)
    have h2 := h x List.mem_cons_self
    simp only [List.map_cons, List.sum_cons]; omega
theorem sum_mul (c : Int) (g : Nat → Int) : ∀ (l : List Nat), (l.map fun j => c * g j).sum = c * (l.map g).sum
  | [] => (by simp)
  | x :: l => by simp only [List.map_cons, List.sum_cons]; rw [sum_mul c g l, Int.mul_add]
/-- The boxes in the boxes directly in a box are all that are in it. -/
theorem kid_cover (h : Link zs n) (hi : i < n) : ∀ (rest done : List Nat), kidL zs n i = done ++ rest → (rest.map fun j => (en zs n j : Int) - (j : Int)).sum = (en zs n i : Int) - (rest.head?.getD (en zs n i) : Nat)
  | [], _, _ => (by simp)
  | j :: rest, done, e => by
    have h1 := kid_cover h hi rest (done ++ [j]) (by rw [e]; simp)
    have h2 := h.next_kid hi e
    simp only [List.map_cons, List.sum_cons, List.head?_cons, Option.getD_some]
    rw [h1, ← h2]; omega
theorem kid_sum (h : Link zs n) (hi : i < n) : ((kidL zs n i).map fun j => (en zs n j : Int) - (j : Int)).sum = (en zs n i : Int) - (i : Int) - 1 := by
  have h1 := kid_cover h hi (kidL zs n i) [] rfl
  rw [h1]
  have h2 := kid_first h hi
  cases hk : kidL zs n i with
  | nil => rw [hk] at h2; simp at h2; simp; omega
  | cons j r => rw [hk] at h2; simp at h2; simp; omega
theorem turn_fst (ss : List (Int × Int)) : (ss.map turnP).map Prod.fst = ss.map Prod.snd := by rw [List.map_map]; rfl
theorem turn_snd (ss : List (Int × Int)) : (ss.map turnP).map Prod.snd = ss.map Prod.fst := by rw [List.map_map]; rfl
/-- Sums and greatest of sizes that are bounded box by box. -/
theorem sbs_bd {g : Int} (hg : 0 ≤ g ∧ g ≤ 50) (l : List Nat) (hl : l.length ≤ 8) (f : Nat → Int × Int) (b : Nat → Int) (hb : ∀ j ∈ l, 0 ≤ (f j).1 ∧ (f j).1 ≤ 600 * b j ∧ 0 ≤ (f j).2 ∧ (f j).2 ≤ 600 * b j) :
    (0 ≤ (sbs g (l.map f)).1 ∧ (sbs g (l.map f)).1 ≤ 350 + 600 * (l.map b).sum) ∧ (0 ≤ (sbs g (l.map f)).2 ∧ (sbs g (l.map f)).2 ≤ 600 * (l.map b).sum) := by
  have hb0 : ∀ j ∈ l, 0 ≤ b j := fun j hj => by have := hb j hj; omega
  have s0 := sum_ge0 l hb0
  have h1 : ((l.map f).map Prod.fst).sum ≤ 600 * (l.map b).sum := by
    rw [List.map_map, ← sum_mul]
    exact sum_monoN l fun j hj => (hb j hj).2.1
  have h2 : 0 ≤ ((l.map f).map Prod.fst).sum := by
    rw [List.map_map]
    exact sum_ge0 l fun j hj => (hb j hj).1
  have hm : 0 ≤ mx 0 (((l.map f).length : Int) - 1) ∧ mx 0 (((l.map f).length : Int) - 1) ≤ 7 := by rw [List.length_map]; unfold mx; omega
  have h3 : 0 ≤ g * mx 0 (((l.map f).length : Int) - 1) := Int.mul_nonneg hg.1 hm.1
  have h4 : g * mx 0 (((l.map f).length : Int) - 1) ≤ 350 := by
    have := Int.mul_le_mul hg.2 hm.2 hm.1 (by omega : (0 : Int) ≤ 50); omega
  have le_sum : ∀ (l : List Nat), (∀ j ∈ l, 0 ≤ b j) → ∀ j ∈ l, b j ≤ (l.map b).sum := by
    intro l
    induction l with
    | nil => intro _ j hj; cases hj
    | cons x l ih =>
      intro h0 j hj
      have s1 := sum_ge0 l fun y hy => h0 y (List.mem_cons_of_mem _ hy)
      have hx := h0 x List.mem_cons_self
      simp only [List.map_cons, List.sum_cons]
      rcases List.mem_cons.1 hj with rfl | hj
      · omega
      · have := ih (fun y hy => h0 y (List.mem_cons_of_mem _ hy)) j hj; omega
  unfold sbs
  refine ⟨⟨by omega, by omega⟩, (foldMx_ge _).1, foldMx_le _ (by omega) fun x hx => ?_⟩
  rw [List.map_map, List.mem_map] at hx
  obtain ⟨j, hj, rfl⟩ := hx
  have h5 := (hb j hj).2.2.2
  have h6 := le_sum l hb0 j hj
  show (f j).2 ≤ _
  omega
theorem nat_bd (hv : vtB n zs = true) (hi : i < n) : 0 ≤ (natL zs n i).1 ∧ (natL zs n i).1 ≤ 600 * ((en zs n i : Int) - (i : Int)) ∧ 0 ≤ (natL zs n i).2 ∧ (natL zs n i).2 ≤ 600 * ((en zs n i : Int) - (i : Int)) := by
  generalize hm : n - i = m
  induction m using Nat.strongRecOn generalizing i with
  | ind m ih =>
    have hL := link_vt hv
    obtain ⟨⟨k0, k1⟩, hw, hh, hp, hg, _⟩ := ((vtB_iff.1 hv).2 i hi).1
    have IH : ∀ j ∈ kidL zs n i, 0 ≤ (natL zs n j).1 ∧ (natL zs n j).1 ≤ 600 * ((en zs n j : Int) - (j : Int)) ∧ 0 ≤ (natL zs n j).2 ∧ (natL zs n j).2 ≤ 600 * ((en zs n j : Int) - (j : Int)) := fun j hj => by
      obtain ⟨_, h2, h3⟩ := hL.kid_in hj
      exact ih (n - j) (by omega) h3 rfl
    have IH2 : ∀ j ∈ kidL zs n i, 0 ≤ (turnP (natL zs n j)).1 ∧ (turnP (natL zs n j)).1 ≤ 600 * ((en zs n j : Int) - (j : Int)) ∧ 0 ≤ (turnP (natL zs n j)).2 ∧ (turnP (natL zs n j)).2 ≤ 600 * ((en zs n j : Int) - (j : Int)) := fun j hj => by
      have := IH j hj
      unfold turnP
      exact ⟨this.2.2.1, this.2.2.2, this.1, this.2.1⟩
    have s := kid_sum hL hi
    have b1 := sbs_bd hg (kidL zs n i) (kids_le hv) (natL zs n) (fun j => (en zs n j : Int) - (j : Int)) IH
    have b2 := sbs_bd hg (kidL zs n i) (kids_le hv) (fun j => turnP (natL zs n j)) (fun j => (en zs n j : Int) - (j : Int)) IH2
    rw [s] at b1 b2
    have eb := en_bd (zs := zs) hi
    rw [nat_step hL hi]
    unfold contL contP
    rw [List.map_map]
    have e2 : (kidL zs n i).map (turnP ∘ natL zs n) = (kidL zs n i).map fun j => turnP (natL zs n j) := rfl
    rw [e2]
    by_cases h0 : knd zs i = 0
    · rw [if_pos h0] at hw hh ⊢
      simp only
      omega
    · rw [if_neg h0]
      by_cases h2 : knd zs i = 2
      · rw [if_pos h2]
        simp only
        omega
      · rw [if_neg h2]
        simp only [turnP] at b2 ⊢
        omega
end
end Go.Proofs.Ytobnjagmakhgpaa

/- The helpers of the exact laws on slices of size: copied, measured, compared and marked. Conditions: the slices can be read, or lie in a block of the call's own. -/
namespace Go.Proofs.Ytobnjagmakhgpaa
open Go.RowKit

theorem mksize (n : Nat) (hn : n ≤ 1048576) (W : World) : (Instr.makeSlice 157 (.int .i64 (n : Int)) (.int .i64 (n : Int))).run Try.prog W = .ok (.slice (some ⟨W.heap.size, 0, none⟩) n n) (W.alloc (.cells (madeCells #[Value.int .i64 0, Value.int .i64 0] (n * 2)) 65)) := by
  have hinfo : (Try.prog.info? 65).map (fun i => (i.zero, i.size, i.bytes)) = some (some (.agg #[Value.int .i64 0, Value.int .i64 0]), 2, 16) := by kernel_rfl
  obtain ⟨i, hi, hzz⟩ := Option.map_eq_some_iff.1 hinfo
  simp only [Prod.mk.injEq] at hzz
  obtain ⟨hz, hs, hb⟩ := hzz
  have h := run_make (P := Try.prog) W 157 65 i (.agg #[Value.int .i64 0, Value.int .i64 0]) Try.underlying157 hi hz .i64 .i64 (n : Int) (n : Int) (by omega) (by omega) (by rw [hb]; omega) (by omega)
  rw [hs] at h
  exact h
theorem zerosize (i : Nat) : (#[Value.int .i64 0, Value.int .i64 0] : Array Value)[i % (#[Value.int .i64 0, Value.int .i64 0] : Array Value).size]! = .int .i64 0 := by
  have h : i % 2 < 2 := Nat.mod_lt _ (by omega)
  have hs : (#[Value.int .i64 0, Value.int .i64 0] : Array Value).size = 2 := rfl
  rw [hs]
  generalize i % 2 = j at h
  match j, h with
  | 0, _ => rfl
  | 1, _ => rfl
  | j + 2, h => omega
theorem rowsize_step {w2 : World} {g k n : Nat} {xs : List Int} (r : Row w2 g (upTo (k * 2) xs)) (hx : xs.length = n * 2) (hlt : k < n) : Row ((w2.setCell ⟨g, k * 2, none⟩ (.int .i64 (xs.getD (k * 2) 0))).setCell ⟨g, k * 2 + 1, none⟩ (.int .i64 (xs.getD (k * 2 + 1) 0))) g (upTo ((k + 1) * 2) xs) := by
  have lq : ∀ j, j < 2 → k * 2 + j < xs.length := fun j hj => by rw [hx]; exact idx_lt hlt hj
  have r := r.set_ (k := k * 2) (by rw [upTo_len _ _ (by have := lq 0 (by omega); omega)]; exact lq 0 (by omega)) (xs.getD (k * 2) 0)
  rw [upTo_step (k * 2) xs (by have := lq 0 (by omega); omega)] at r
  have r := r.set_ (k := k * 2 + 1) (by rw [upTo_len _ _ (by have := lq 1 (by omega); omega)]; exact lq 1 (by omega)) (xs.getD (k * 2 + 1) 0)
  rw [upTo_step (k * 2 + 1) xs (by have := lq 1 (by omega); omega)] at r
  rw [Nat.add_mul, Nat.one_mul]
  exact r
end Go.Proofs.Ytobnjagmakhgpaa

/- Lists of size that grow by append: what owning such a list means, and what each append leaves. Conditions: the list is short. -/
namespace Go.Proofs.Ytobnjagmakhgpaa
open Go.RowKit

/-- The slice value v owns n structs with the numbers zs, in a block from lo on. -/
def Ownsize (lo : Nat) (w : World) (v : Value) (n : Nat) (zs : List Int) : Prop := w.ownsRow lo 65 2 v n (zs.map (Value.int .i64)) ∧ zs.length = n * 2
section
variable {lo n : Nat} {w w' w0 : World} {v : Value} {zs : List Int}
theorem Ownsize.form (h : Ownsize lo w v n zs) : (v = .slice none 0 0 ∧ n = 0 ∧ zs = []) ∨ ∃ g c, v = .slice (some ⟨g, 0, none⟩) n c ∧ lo ≤ g ∧ Row w g zs ∧ n ≤ c ∧ v.ownBlock = some g := by
  obtain ⟨h, hl⟩ := h
  rcases h.2 with ⟨hv, hn⟩ | ⟨g, cap, cur, hv, hg, hh, hc, hm, hs, ht⟩
  · exact .inl ⟨hv, hn, List.eq_nil_of_length_eq_zero (by omega)⟩
  · refine .inr ⟨g, cap, hv, hg, ?_, hc, by rw [hv]; rfl⟩
    have hlt : g < w.heap.size := by
      rcases Nat.lt_or_ge g w.heap.size with h1 | h1
      · exact h1
      · rw [Array.getElem?_eq_none h1] at hh; cases hh
    refine ⟨hlt, fun i hi => ?_, fun i _ => by simp [World.frozen?, hh]⟩
    rw [cell_of_row w g i cur 65 (0, 0) hh]
    have e : cur[i]? = (cur.toList.take (n * 2))[i]? := by
      rw [List.getElem?_take_of_lt (by omega)]
      simp
    rw [e, ht]
    simp [hi]
theorem Ownsize.res (h : Ownsize lo w v n zs) : ∃ A c, v = .slice A n c ∧ n ≤ c ∧ Res lo w.heap.size w A zs := by
  rcases h.form with ⟨rfl, rfl, rfl⟩ | ⟨g, c, rfl, hg, hR, hc, _⟩
  · exact ⟨none, 0, rfl, Nat.le_refl _, Res.nil _ _ _⟩
  · exact ⟨_, c, rfl, hc, Res.of_row hR hg⟩
theorem Ownsize.below (h : Ownsize lo w v n zs) {g : Nat} (hg : v.ownBlock = some g) : lo ≤ g := by
  rcases h.form with ⟨rfl, _, _⟩ | ⟨g', c, rfl, hg', _, _, e⟩
  · simp [Value.ownBlock] at hg
  · rw [e] at hg; have := Option.some.inj hg; omega
theorem Ownsize.kept (h : Ownsize lo w v n zs) {r : Option Nat} (k : w.grownBy w' r) (hr : ∀ g, r = some g → g < lo) : Ownsize lo w' v n zs := by
  refine ⟨⟨h.1.1, ?_⟩, h.2⟩
  rcases h.1.2 with hn | ⟨g, cap, cur, hv, hg, hh, hc, hm, hs, ht⟩
  · exact .inl hn
  · have hlt : g < w.heap.size := by
      rcases Nat.lt_or_ge g w.heap.size with h1 | h1
      · exact h1
      · rw [Array.getElem?_eq_none h1] at hh; cases hh
    exact .inr ⟨g, cap, cur, hv, hg, (k.block g hlt (fun e => by have := hr g e.symm; omega)).trans hh, hc, hm, hs, ht⟩
theorem Ownsize.new (h : Ownsize lo w v n zs) (k : New w w') : Ownsize lo w' v n zs := h.kept (k.grown none) (fun _ e => by cases e)
theorem Ownsize.alloc (h : Ownsize lo w v n zs) (o : Obj) : Ownsize lo (w.alloc o) v n zs := h.new ((New.refl _).alloc o)
theorem Ownsize.empty (w : World) (hl : lo ≤ w.heap.size) : Ownsize lo (w.alloc (.cells #[] 65)) (.slice (some ⟨w.heap.size, 0, none⟩) 0 0) 0 [] :=
  ⟨⟨rfl, .inr ⟨w.heap.size, 0, #[], rfl, hl, heap_alloc_new w _, Nat.le_refl _, Nat.zero_le _, rfl, rfl⟩⟩, rfl⟩
theorem new_ownsize (h : New w0 w) (k : w.grownBy w' v.ownBlock) (ho : Ownsize lo w v n zs) (hl : w0.heap.size ≤ lo) : New w0 w' :=
  ⟨k.os.trans h.os, k.tape.trans h.tape, k.output.trans h.output, Nat.le_trans h.size k.size, fun i hi => (k.block i (Nat.lt_of_lt_of_le hi h.size) (fun e => by have := ho.below e.symm; omega)).trans (h.block i hi)⟩
theorem only_ownsize {a : Nat} (h : w0.grownBy w (some a)) (k : w.grownBy w' v.ownBlock) (ho : Ownsize lo w v n zs) (hl : w0.heap.size ≤ lo) : w0.grownBy w' (some a) :=
  ⟨k.os.trans h.os, k.tape.trans h.tape, k.output.trans h.output, Nat.le_trans h.size k.size, fun i hi hne => (k.block i (Nat.lt_of_lt_of_le hi h.size) (fun e => by have := ho.below e.symm; omega)).trans (h.block i hi hne)⟩
theorem Rdr.ownsize {a : Nat} {A : Option Addr} {m p : Nat} (h : Rdr w a A m p) (k : w.grownBy w' v.ownBlock) (ho : Ownsize lo w v n zs) (hl : a < lo) : Rdr w' a A m p :=
  h.grown k (fun _ e => by have := ho.below e; omega)
end
theorem info_size : (Try.prog.info? 65).map (fun i => (i.zero, i.size, i.bytes)) = some (some (.agg #[Value.int .i64 0, Value.int .i64 0]), 2, 16) := by kernel_rfl
theorem wp_appsize {w : World} {ops : Array Oper} {rest : List Oper} {o : Oper} {a : Act} {Q : Exit → Act → World → Prop} (hgd : o.guard = none) (s x : Operand)
    (ho : o.op = .call { callee := .builtin .append, args := #[s, x], argTypes := #[157, 157] }) (lo : Nat) (v : Value) (n : Nat) (zs : List Int) (hs : a.eval s = v) (hown : Ownsize lo w v n zs)
    (g : Nat) (y0 y1 : Int) (hx : a.eval x = .slice (some ⟨g, 0, none⟩) 1 1) (hr : Row w g [y0, y1]) (hn : n ≤ 1000) (hlo : lo ≤ w.heap.size)
    (h : ∀ v' w', Ownsize lo w' v' (n + 1) (zs ++ [y0, y1]) → w.grownBy w' v.ownBlock → wpList Try.prog ops Q rest (a.put o.dst v') w') : wpList Try.prog ops Q (o :: rest) a w :=
  wpList_plain hgd fun K hK => by
    obtain ⟨i0, hi, hz0, hz1, hz2⟩ := info_parts info_size
    obtain ⟨v', w', hrun, h2, h3, _, _⟩ := run_append_own_at (P := Try.prog) w lo 157 o.type 65 i0 (.agg #[Value.int .i64 0, Value.int .i64 0]) 2 16 Try.underlying157 hi hz0 hz1 hz2 rfl (by decide) v n (zs.map (Value.int .i64)) hown.1 ⟨g, 0, none⟩ 1 1 ([y0, y1].map (Value.int .i64)) rfl (fun j u hu => by
      have hj : j < 2 := by
        rcases Nat.lt_or_ge j 2 with h1 | h1
        · exact h1
        · rw [List.getElem?_eq_none (by simpa using h1)] at hu; cases hu
      have hc := hr.c j (by simpa using hj)
      have e : u = .int .i64 ([y0, y1].getD j 0) := by
        match j, hj with
        | 0, _ => simp at hu; exact hu.symm
        | 1, _ => simp at hu; exact hu.symm
        | j + 2, hj => omega
      rw [e, Go.WideShapes.add_plain, Nat.zero_add]
      exact hc) (fun u hu => by
      obtain ⟨z, _, rfl⟩ := List.mem_map.1 hu
      rfl) (by unfold maxLen; omega) (by omega) hlo
    unfold Oper.wp execOp
    simp only [ho, resolve, invoke, builtin, Sem.run_bind, Sem.run_pure, Result.andThen_ok, List.map_toArray, List.map_cons, List.map_nil, hs, hx, hrun]
    refine hK _ _ (h v' w' ⟨?_, by rw [List.length_append, hown.2]; simp; omega⟩ h3)
    rw [List.map_append]
    exact h2
theorem Row.onesize (w : World) (y0 y1 : Int) (t : TypeId) : Row (w.alloc (.cells #[.int .i64 y0, .int .i64 y1] t)) w.heap.size [y0, y1] :=
  ⟨by simp, fun i hi => by
    have hi' : i < 2 := by simpa using hi
    match i, hi' with
    | 0, _ => simp [go_sem]
    | 1, _ => simp [go_sem]
    | i + 2, h => omega, fun i hi => by simp [go_sem]⟩
end Go.Proofs.Ytobnjagmakhgpaa
