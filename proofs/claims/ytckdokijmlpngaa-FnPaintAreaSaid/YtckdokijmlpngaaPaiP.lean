/- Plain facts: the points of rectangles, counted in one great window. No condition. -/
import Derived.Test.YtckdokijmlpngaaPaiN
import Derived.Test.YtckdokijmlpngaaJoiM
import Derived.Test.YtckdokijmlpngaaDmgP
namespace Go.Proofs.Ytckdokijmlpngaa
open Go.RowKit

def ind (b : Bool) : Int := if b then 1 else 0
theorem ind_bd (b : Bool) : 0 ≤ ind b ∧ ind b ≤ 1 := by unfold ind; split <;> omega
/-- How many of m numbers have a property. -/
def cX (P : Int → Bool) (lo : Int) : Nat → Int
  | 0 => 0
  | m + 1 => cX P lo m + ind (P (lo + (m : Int)))
/-- How many points of a window have a property. -/
def cY (P : Int → Int → Bool) (x y : Int) (m : Nat) : Nat → Int
  | 0 => 0
  | k + 1 => cY P x y m k + cX (fun p => P p (y + (k : Int))) x m
theorem cX_step (P : Int → Bool) (lo : Int) (m : Nat) : cX P lo (m + 1) = cX P lo m + ind (P (lo + (m : Int))) := rfl
theorem cY_step (P : Int → Int → Bool) (x y : Int) (m k : Nat) : cY P x y m (k + 1) = cY P x y m k + cX (fun p => P p (y + (k : Int))) x m := rfl
theorem cX_none {P : Int → Bool} {lo : Int} : ∀ {m : Nat}, (∀ j : Nat, j < m → P (lo + (j : Int)) = false) → cX P lo m = 0
  | 0, _ => rfl
  | m + 1, h => by
    simp only [cX_step]
    rw [cX_none (fun j hj => h j (by omega)), h m (by omega)]; rfl
theorem cX_le {P Q : Int → Bool} {lo : Int} : ∀ {m : Nat}, (∀ j : Nat, j < m → P (lo + (j : Int)) = true → Q (lo + (j : Int)) = true) → cX P lo m ≤ cX Q lo m
  | 0, _ => Int.le_refl _
  | m + 1, h => by
    simp only [cX_step]
    have a := cX_le (P := P) (Q := Q) (lo := lo) (m := m) (fun j hj => h j (by omega))
    have b : ind (P (lo + (m : Int))) ≤ ind (Q (lo + (m : Int))) := by
      cases hp : P (lo + (m : Int))
      · exact (ind_bd _).1
      · rw [h m (by omega) hp]; exact Int.le_refl _
    omega
theorem cX_add {P Q R : Int → Bool} {lo : Int} : ∀ {m : Nat}, (∀ j : Nat, j < m → ind (P (lo + (j : Int))) = ind (Q (lo + (j : Int))) + ind (R (lo + (j : Int)))) → cX P lo m = cX Q lo m + cX R lo m
  | 0, _ => rfl
  | m + 1, h => by
    simp only [cX_step]
    rw [cX_add (P := P) (Q := Q) (R := R) (fun j hj => h j (by omega)), h m (by omega)]
    omega
theorem cX_congr {P Q : Int → Bool} {lo : Int} : ∀ {m : Nat}, (∀ j : Nat, j < m → P (lo + (j : Int)) = Q (lo + (j : Int))) → cX P lo m = cX Q lo m
  | 0, _ => rfl
  | m + 1, h => by
    simp only [cX_step]
    rw [cX_congr (P := P) (Q := Q) (fun j hj => h j (by omega)), h m (by omega)]
theorem cX_app (P : Int → Bool) (lo : Int) (a : Nat) : ∀ m : Nat, cX P lo (a + m) = cX P lo a + cX P (lo + (a : Int)) m
  | 0 => by simp [cX]
  | m + 1 => by
    rw [← Nat.add_assoc]
    simp only [cX_step]
    rw [cX_app P lo a m, show lo + ((a + m : Nat) : Int) = lo + (a : Int) + (m : Int) by omega]
    omega
theorem cX_cut {P : Int → Bool} {lo x : Int} {M m : Nat} (h1 : lo ≤ x) (h2 : x + (m : Int) ≤ lo + (M : Int)) (h : ∀ p, P p = true → x ≤ p ∧ p < x + (m : Int)) : cX P lo M = cX P x m := by
  obtain ⟨a, ha⟩ : ∃ a : Nat, x = lo + (a : Int) := ⟨(x - lo).toNat, by omega⟩
  obtain ⟨b, hb⟩ : ∃ b : Nat, M = a + (m + b) := ⟨M - a - m, by omega⟩
  subst hb
  rw [cX_app, cX_app, ← ha]
  rw [cX_none (P := P) (lo := lo) (m := a) (fun j hj => by
    cases hp : P (lo + (j : Int))
    · rfl
    · have := h _ hp; omega), cX_none (P := P) (lo := x + (m : Int)) (m := b) (fun j hj => by
    cases hp : P (x + (m : Int) + (j : Int))
    · rfl
    · have := h _ hp; omega)]
  omega
theorem cX_full {lo : Int} : ∀ m : Nat, cX (fun _ => true) lo m = (m : Int)
  | 0 => rfl
  | m + 1 => by rw [cX_step, cX_full m]; unfold ind; simp
theorem cY_none {P : Int → Int → Bool} {x y : Int} {m : Nat} : ∀ {k : Nat}, (∀ i j : Nat, i < k → j < m → P (x + (j : Int)) (y + (i : Int)) = false) → cY P x y m k = 0
  | 0, _ => rfl
  | k + 1, h => by
    simp only [cY_step]
    rw [cY_none (fun i j hi hj => h i j (by omega) hj), cX_none (fun j hj => h k j (by omega) hj)]; rfl
theorem cY_le {P Q : Int → Int → Bool} {x y : Int} {m : Nat} (h : ∀ p q, P p q = true → Q p q = true) : ∀ k : Nat, cY P x y m k ≤ cY Q x y m k
  | 0 => Int.le_refl _
  | k + 1 => by
    simp only [cY_step]
    have a := cY_le (x := x) (y := y) (m := m) h k
    have b := cX_le (P := fun p => P p (y + (k : Int))) (Q := fun p => Q p (y + (k : Int))) (lo := x) (m := m) (fun j _ hp => h _ _ hp)
    omega
theorem cY_add {P Q R : Int → Int → Bool} {x y : Int} {m : Nat} (h : ∀ p q, ind (P p q) = ind (Q p q) + ind (R p q)) : ∀ k : Nat, cY P x y m k = cY Q x y m k + cY R x y m k
  | 0 => rfl
  | k + 1 => by
    simp only [cY_step]
    rw [cY_add h k, cX_add (P := fun p => P p (y + (k : Int))) (Q := fun p => Q p (y + (k : Int))) (R := fun p => R p (y + (k : Int))) (fun j _ => h _ _)]
    omega
theorem cY_congr {P Q : Int → Int → Bool} {x y : Int} {m : Nat} : ∀ {k : Nat}, (∀ i j : Nat, i < k → j < m → P (x + (j : Int)) (y + (i : Int)) = Q (x + (j : Int)) (y + (i : Int))) → cY P x y m k = cY Q x y m k
  | 0, _ => rfl
  | k + 1, h => by
    simp only [cY_step]
    rw [cY_congr (P := P) (Q := Q) (fun i j hi hj => h i j (by omega) hj), cX_congr (P := fun p => P p (y + (k : Int))) (Q := fun p => Q p (y + (k : Int))) (fun j hj => h k j (by omega) hj)]
theorem cY_app (P : Int → Int → Bool) (x y : Int) (m a : Nat) : ∀ k : Nat, cY P x y m (a + k) = cY P x y m a + cY P x (y + (a : Int)) m k
  | 0 => by simp [cY]
  | k + 1 => by
    rw [← Nat.add_assoc]
    simp only [cY_step]
    rw [cY_app P x y m a k, show y + ((a + k : Nat) : Int) = y + (a : Int) + (k : Int) by omega]
    omega
theorem cY_cutX {P : Int → Int → Bool} {X x y : Int} {M m : Nat} (h1 : X ≤ x) (h2 : x + (m : Int) ≤ X + (M : Int)) (h : ∀ p q, P p q = true → x ≤ p ∧ p < x + (m : Int)) : ∀ k : Nat, cY P X y M k = cY P x y m k
  | 0 => rfl
  | k + 1 => by
    simp only [cY_step]
    rw [cY_cutX h1 h2 h k, cX_cut h1 h2 (fun p hp => h p _ hp)]
theorem cY_cut {P : Int → Int → Bool} {X Y x y : Int} {M K m k : Nat} (h1 : X ≤ x) (h2 : x + (m : Int) ≤ X + (M : Int)) (h3 : Y ≤ y) (h4 : y + (k : Int) ≤ Y + (K : Int)) (h : ∀ p q, P p q = true → (x ≤ p ∧ p < x + (m : Int)) ∧ y ≤ q ∧ q < y + (k : Int)) : cY P X Y M K = cY P x y m k := by
  rw [cY_cutX h1 h2 (fun p q hp => (h p q hp).1) K]
  obtain ⟨a, ha⟩ : ∃ a : Nat, y = Y + (a : Int) := ⟨(y - Y).toNat, by omega⟩
  obtain ⟨b, hb⟩ : ∃ b : Nat, K = a + (k + b) := ⟨K - a - k, by omega⟩
  subst hb
  rw [cY_app, cY_app, ← ha]
  rw [cY_none (P := P) (x := x) (y := Y) (m := m) (k := a) (fun i j hi _ => by
    cases hp : P (x + (j : Int)) (Y + (i : Int))
    · rfl
    · have := (h _ _ hp).2; omega), cY_none (P := P) (x := x) (y := y + (k : Int)) (m := m) (k := b) (fun i j hi _ => by
    cases hp : P (x + (j : Int)) (y + (k : Int) + (i : Int))
    · rfl
    · have := (h _ _ hp).2; omega)]
  omega
theorem cY_full {x y : Int} (m : Nat) : ∀ k : Nat, cY (fun _ _ => true) x y m k = (k : Int) * (m : Int)
  | 0 => by simp [cY]
  | k + 1 => by
    simp only [cY_step]
    rw [cY_full m k, cX_full, show ((k + 1 : Nat) : Int) * (m : Int) = (k : Int) * (m : Int) + (m : Int) by rw [Int.natCast_add, Int.add_mul]; simp]
/-- The window in which all points lie. -/
def win (M : Nat) (P : Int → Int → Bool) : Int := cY P (-100000) (-100000) M M
theorem win_le {M : Nat} {P Q : Int → Int → Bool} (h : ∀ p q, P p q = true → Q p q = true) : win M P ≤ win M Q := cY_le h _
theorem win_add {M : Nat} {P Q R : Int → Int → Bool} (h : ∀ p q, ind (P p q) = ind (Q p q) + ind (R p q)) : win M P = win M Q + win M R := cY_add h _
theorem win_none {M : Nat} {P : Int → Int → Bool} (h : ∀ p q, P p q = false) : win M P = 0 := cY_none (fun _ _ _ _ => h _ _)
/-- The points of a rectangle that have a property. -/
theorem win_rect {M : Nat} (hM : 200040 ≤ M) {x y w h : Int} (P : Int → Int → Bool) (hx : -100000 ≤ x ∧ x ≤ 100000) (hy : -100000 ≤ y ∧ y ≤ 100000) (hw : 0 ≤ w ∧ w ≤ 40) (hh : 0 ≤ h ∧ h ≤ 40) : win M (fun p q => hR x y w h p q && P p q) = cY P x y w.toNat h.toNat := by
  unfold win
  rw [cY_cut (x := x) (y := y) (m := w.toNat) (k := h.toNat) (by omega) (by omega) (by omega) (by omega) (fun p q hp => by
    rw [Bool.and_eq_true] at hp
    have := of_decide_eq_true hp.1
    omega)]
  refine cY_congr fun i j hi hj => ?_
  rw [show hR x y w h (x + (j : Int)) (y + (i : Int)) = true from decide_eq_true (by omega), Bool.true_and]
theorem win_area {M : Nat} (hM : 200040 ≤ M) {x y w h : Int} (hx : -100000 ≤ x ∧ x ≤ 100000) (hy : -100000 ≤ y ∧ y ≤ 100000) (hw : 0 ≤ w ∧ w ≤ 40) (hh : 0 ≤ h ∧ h ≤ 40) : win M (hR x y w h) = w * h := by
  have a := win_rect hM (fun _ _ => true) hx hy hw hh
  rw [cY_full, show ((h.toNat : Nat) : Int) = h by omega, show ((w.toNat : Nat) : Int) = w by omega, Int.mul_comm] at a
  rw [← a]
  congr 1
  funext p q
  rw [Bool.and_true]
theorem cnX_cX (n : Nat) (zs : List Int) (x y : Int) : ∀ j : Nat, cnX n zs x y j = cX (fun p => !(inN n zs p y)) x j
  | 0 => rfl
  | j + 1 => by
    rw [cnX_step, cnX_cX n zs x y j]
    simp only [cX_step]
    cases inN n zs (x + (j : Int)) y <;> rfl
theorem cnY_cY (n : Nat) (zs : List Int) (x y : Int) (m : Nat) : ∀ k : Nat, cnY n zs x y m k = cY (fun p q => !(inN n zs p q)) x y m k
  | 0 => rfl
  | k + 1 => by
    rw [cnY_step, cnY_cY n zs x y m k, cnX_cX]
    rfl
/-- A rectangle whose points are counted. -/
theorem okc_bd {zs : List Int} {k : Nat} (h1 : rOk zs k = true) (h2 : ctOk zs k = true) : (-100000 ≤ zs.getD (k * 4) 0 ∧ zs.getD (k * 4) 0 ≤ 100000) ∧ (-100000 ≤ zs.getD (k * 4 + 1) 0 ∧ zs.getD (k * 4 + 1) 0 ≤ 100000) ∧ (0 ≤ zs.getD (k * 4 + 2) 0 ∧ zs.getD (k * 4 + 2) 0 ≤ 40) ∧ (0 ≤ zs.getD (k * 4 + 3) 0 ∧ zs.getD (k * 4 + 3) 0 ≤ 40) := by
  have a := vR_iff.1 h1
  have b := of_decide_eq_true h2
  omega
theorem rArea_win {M : Nat} (hM : 200040 ≤ M) {zs : List Int} {k : Nat} (h1 : rOk zs k = true) (h2 : ctOk zs k = true) : rArea zs k = win M (fun p q => inK zs p q k && !(inN k zs p q)) := by
  obtain ⟨a, b, c, d⟩ := okc_bd h1 h2
  unfold rArea
  rw [cnY_cY]
  exact (win_rect hM (fun p q => !(inN k zs p q)) a b c d).symm
theorem inK_win {M : Nat} (hM : 200040 ≤ M) {zs : List Int} {k : Nat} (h1 : rOk zs k = true) (h2 : ctOk zs k = true) : win M (fun p q => inK zs p q k) = zs.getD (k * 4 + 2) 0 * zs.getD (k * 4 + 3) 0 := by
  obtain ⟨a, b, c, d⟩ := okc_bd h1 h2
  exact win_area hM a b c d
theorem arTo_win {M : Nat} (hM : 200040 ≤ M) {zs : List Int} : ∀ {n : Nat}, (∀ j, j < n → rOk zs j = true) → (∀ j, j < n → ctOk zs j = true) → arTo zs n = win M (inN n zs)
  | 0, _, _ => (win_none (fun p q => anyTo_no (fun i h => absurd h (by omega)))).symm
  | n + 1, h1, h2 => by
    rw [arTo_step, arTo_win hM (fun j hj => h1 j (by omega)) (fun j hj => h2 j (by omega)), rArea_win hM (h1 n (by omega)) (h2 n (by omega))]
    refine (win_add fun p q => ?_).symm
    unfold inN
    rw [anyTo_step]
    cases anyTo n (inK zs p q) <;> cases inK zs p q n <;> rfl
/-- As many points as one of them has, and no more than all together. -/
theorem arTo_ge {zs : List Int} {n k : Nat} (h1 : ∀ j, j < n → rOk zs j = true) (h2 : ∀ j, j < n → ctOk zs j = true) (hk : k < n) : zs.getD (k * 4 + 2) 0 * zs.getD (k * 4 + 3) 0 ≤ arTo zs n := by
  obtain ⟨M, hM⟩ : ∃ M : Nat, 200040 ≤ M := ⟨200040, Nat.le_refl _⟩
  rw [arTo_win hM h1 h2, ← inK_win hM (h1 k hk) (h2 k hk)]
  exact win_le fun p q h => anyTo_iff.2 ⟨k, hk, h⟩
def sumA (zs : List Int) : Nat → Int
  | 0 => 0
  | k + 1 => sumA zs k + zs.getD (k * 4 + 2) 0 * zs.getD (k * 4 + 3) 0
theorem arTo_le {zs : List Int} : ∀ {n : Nat}, (∀ j, j < n → rOk zs j = true) → (∀ j, j < n → ctOk zs j = true) → arTo zs n ≤ sumA zs n
  | 0, _, _ => Int.le_refl _
  | n + 1, h1, h2 => by
    have a := arTo_le (fun j hj => h1 j (by omega)) (fun j hj => h2 j (by omega)) (zs := zs) (n := n)
    obtain ⟨M, hM⟩ : ∃ M : Nat, 200040 ≤ M := ⟨200040, Nat.le_refl _⟩
    have b : rArea zs n ≤ zs.getD (n * 4 + 2) 0 * zs.getD (n * 4 + 3) 0 := by
      rw [rArea_win hM (h1 n (by omega)) (h2 n (by omega)), ← inK_win hM (h1 n (by omega)) (h2 n (by omega))]
      exact win_le fun p q h => by rw [Bool.and_eq_true] at h; exact h.1
    unfold arTo sumA
    omega
theorem sumA_bd {zs : List Int} : ∀ {n : Nat}, (∀ j, j < n → rOk zs j = true) → (∀ j, j < n → ctOk zs j = true) → 0 ≤ sumA zs n ∧ sumA zs n ≤ 1600 * (n : Int)
  | 0, _, _ => ⟨Int.le_refl _, by simp [sumA]⟩
  | n + 1, h1, h2 => by
    have a := sumA_bd (fun j hj => h1 j (by omega)) (fun j hj => h2 j (by omega)) (zs := zs) (n := n)
    obtain ⟨_, _, c, d⟩ := okc_bd (h1 n (by omega)) (h2 n (by omega))
    have e := Int.mul_nonneg c.1 d.1
    have f : zs.getD (n * 4 + 2) 0 * zs.getD (n * 4 + 3) 0 ≤ 40 * 40 := Int.mul_le_mul c.2 d.2 d.1 (by omega)
    unfold sumA
    omega
/-- The first rectangle once more adds no point. -/
theorem arTo_again {zs : List Int} {n : Nat} (hl : zs.length = n * 4) (h0 : 0 < n) : arTo (zs ++ l4 (rg zs 0)) (n + 1) = arTo zs n := by
  have e : ∀ i, i < n * 4 → (zs ++ l4 (rg zs 0)).getD i 0 = zs.getD i 0 := fun i hi => by
    rw [List.getD_eq_getElem?_getD, List.getD_eq_getElem?_getD, List.getElem?_append_left (by omega)]
  have ek : ∀ k, k < n → inK (zs ++ l4 (rg zs 0)) = inK (zs ++ l4 (rg zs 0)) ∧ ∀ p q, inK (zs ++ l4 (rg zs 0)) p q k = inK zs p q k := fun k hk => ⟨rfl, fun p q => by
    unfold inK
    rw [e _ (by omega), e _ (by omega), e _ (by omega), e _ (by omega)]⟩
  have en : ∀ m, m ≤ n → ∀ p q, inN m (zs ++ l4 (rg zs 0)) p q = inN m zs p q := fun m hm p q => by
    unfold inN
    rw [Bool.eq_iff_iff, anyTo_iff, anyTo_iff]
    constructor
    · rintro ⟨k, hk, h⟩; exact ⟨k, hk, ((ek k (by omega)).2 p q) ▸ h⟩
    · rintro ⟨k, hk, h⟩; exact ⟨k, hk, ((ek k (by omega)).2 p q).symm ▸ h⟩
  have er : ∀ k, k < n → rArea (zs ++ l4 (rg zs 0)) k = rArea zs k := fun k hk => by
    unfold rArea
    rw [e _ (by omega), e _ (by omega), e _ (by omega), e _ (by omega), cnY_cY, cnY_cY]
    exact cY_congr fun i j _ _ => by rw [en k (by omega)]
  have ea : ∀ m, m ≤ n → arTo (zs ++ l4 (rg zs 0)) m = arTo zs m := fun m => by
    induction m with
    | zero => intro _; rfl
    | succ m ih => intro h; rw [arTo_step, arTo_step, ih (by omega), er m (by omega)]
  rw [arTo_step, ea n (Nat.le_refl n)]
  have g := rg_app2 (out := zs) (i := n) (rg zs 0) hl
  have z : rArea (zs ++ l4 (rg zs 0)) n = 0 := by
    unfold rArea
    unfold rg at g
    simp only [Prod.mk.injEq] at g
    obtain ⟨g0, g1, g2, g3⟩ := g
    unfold rg
    rw [g0, g1, g2, g3, cnY_cY]
    refine cY_none fun i j hi hj => ?_
    have h : inN n (zs ++ l4 (rg zs 0)) (zs.getD (0 * 4) 0 + (j : Int)) (zs.getD (0 * 4 + 1) 0 + (i : Int)) = true := by
      rw [en n (Nat.le_refl n)]
      refine anyTo_iff.2 ⟨0, h0, decide_eq_true ?_⟩
      omega
    unfold rg at h
    rw [h]; rfl
  rw [z]; omega
/-- Two rectangles share their common part. -/
theorem arTo_two {zs : List Int} (h1 : ∀ j, j < 2 → rOk zs j = true) (h2 : ∀ j, j < 2 → ctOk zs j = true) : arTo zs 2 = zs.getD 2 0 * zs.getD 3 0 + zs.getD 6 0 * zs.getD 7 0 - (if m4 (rg zs 0) (rg zs 1) then mW (zs.getD 0 0) (zs.getD 2 0) (zs.getD 4 0) (zs.getD 6 0) * mW (zs.getD 1 0) (zs.getD 3 0) (zs.getD 5 0) (zs.getD 7 0) else 0) := by
  obtain ⟨M, hM⟩ : ∃ M : Nat, 200040 ≤ M := ⟨200040, Nat.le_refl _⟩
  have a0 := inK_win hM (h1 0 (by omega)) (h2 0 (by omega))
  have a1 := inK_win hM (h1 1 (by omega)) (h2 1 (by omega))
  obtain ⟨p0, p1, p2, p3⟩ := okc_bd (h1 0 (by omega)) (h2 0 (by omega))
  obtain ⟨q0, q1, q2, q3⟩ := okc_bd (h1 1 (by omega)) (h2 1 (by omega))
  simp only [Nat.reduceMul, Nat.reduceAdd] at a0 a1 p0 p1 p2 p3 q0 q1 q2 q3
  have key : win M (fun p q => inK zs p q 0) + win M (fun p q => inK zs p q 1) = arTo zs 2 + win M (fun p q => inK zs p q 0 && inK zs p q 1) := by
    rw [arTo_win hM h1 h2]
    have e1 := win_add (M := M) (P := inN 2 zs) (Q := fun p q => inK zs p q 0) (R := fun p q => inK zs p q 1 && !(inK zs p q 0)) (fun p q => by
      unfold inN
      rw [anyTo_step, anyTo_step, anyTo_no (n := 0) (fun i h => absurd h (by omega))]
      cases inK zs p q 0 <;> cases inK zs p q 1 <;> rfl)
    have e2 := win_add (M := M) (P := fun p q => inK zs p q 1) (Q := fun p q => inK zs p q 1 && !(inK zs p q 0)) (R := fun p q => inK zs p q 0 && inK zs p q 1) (fun p q => by
      cases inK zs p q 0 <;> cases inK zs p q 1 <;> rfl)
    omega
  have common : win M (fun p q => inK zs p q 0 && inK zs p q 1) = if m4 (rg zs 0) (rg zs 1) then mW (zs.getD 0 0) (zs.getD 2 0) (zs.getD 4 0) (zs.getD 6 0) * mW (zs.getD 1 0) (zs.getD 3 0) (zs.getD 5 0) (zs.getD 7 0) else 0 := by
    have hm : m4 (rg zs 0) (rg zs 1) = true ↔ 0 < mW (zs.getD 0 0) (zs.getD 2 0) (zs.getD 4 0) (zs.getD 6 0) ∧ 0 < mW (zs.getD 1 0) (zs.getD 3 0) (zs.getD 5 0) (zs.getD 7 0) := by
      unfold m4
      rw [mOk_iff]
      exact ⟨fun h => ⟨h.2.2.1, h.2.2.2⟩, fun h => ⟨h1 0 (by omega), h1 1 (by omega), h.1, h.2⟩⟩
    by_cases hb : m4 (rg zs 0) (rg zs 1) = true
    · rw [if_pos hb]
      obtain ⟨w1, w2⟩ := hm.1 hb
      rw [← win_area hM (x := mx (zs.getD 0 0) (zs.getD 4 0)) (y := mx (zs.getD 1 0) (zs.getD 5 0)) (by unfold mx; omega) (by unfold mx; omega) (by unfold mW mx mn at *; omega) (by unfold mW mx mn at *; omega)]
      congr 1
      funext p q
      rw [Bool.eq_iff_iff, Bool.and_eq_true]
      unfold inK hR
      simp only [decide_eq_true_eq, Nat.reduceMul, Nat.reduceAdd]
      unfold mW mx mn
      omega
    · rw [if_neg hb]
      refine win_none fun p q => ?_
      rw [Bool.eq_false_iff]
      intro h
      refine hb (hm.2 ?_)
      rw [Bool.and_eq_true] at h
      have c := of_decide_eq_true h.1; have d := of_decide_eq_true h.2
      simp only [Nat.reduceMul, Nat.reduceAdd] at c d
      unfold mW mx mn
      omega
  rw [a0, a1, common] at key
  omega
end Go.Proofs.Ytckdokijmlpngaa
