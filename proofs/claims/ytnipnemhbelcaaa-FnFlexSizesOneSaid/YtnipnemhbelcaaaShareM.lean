/- Plain facts on shares: a space split by weights, the rests handed out one by one to the first greatest. No condition. -/
import Derived.Test.YtnipnemhbelcaaaOwn
namespace Go.Proofs.Ytnipnemhbelcaaa

/-- The first greatest of the first k + 1 numbers. -/
def amaxTo (r : List Int) : Nat → Nat
  | 0 => 0
  | k + 1 => if r.getD (amaxTo r k) 0 < r.getD (k + 1) 0 then k + 1 else amaxTo r k
theorem amaxTo_le (r : List Int) (k : Nat) : amaxTo r k ≤ k := by
  induction k with
  | zero => exact Nat.le_refl _
  | succ k ih => unfold amaxTo; split <;> omega
/-- The first greatest. -/
def amax (r : List Int) : Nat := amaxTo r (r.length - 1)
/-- One more is handed out. -/
def spin1 (s : List Int × List Int) : List Int × List Int := (s.1.set (amax s.2) (s.1.getD (amax s.2) 0 + 1), s.2.set (amax s.2) (-1))
def spinTo : Nat → List Int × List Int → List Int × List Int
  | 0, s => s
  | j + 1, s => spin1 (spinTo j s)
theorem spinTo_len (j : Nat) (s : List Int × List Int) : (spinTo j s).1.length = s.1.length ∧ (spinTo j s).2.length = s.2.length := by
  induction j with
  | zero => exact ⟨rfl, rfl⟩
  | succ j ih => unfold spinTo spin1; simpa using ih
def baseL (a : Int) (ws : List Int) : List Int := ws.map fun x => a * x / ws.sum
def restL (a : Int) (ws : List Int) : List Int := ws.map fun x => a * x % ws.sum
theorem baseL_len (a : Int) (ws : List Int) : (baseL a ws).length = ws.length := by simp [baseL]
theorem restL_len (a : Int) (ws : List Int) : (restL a ws).length = ws.length := by simp [restL]
/-- What is left to be handed out. -/
def leftL (a : Int) (ws : List Int) : Int := a - (baseL a ws).sum
/-- A space that is split by weights. -/
def shareL (a : Int) (ws : List Int) : List Int := if ws.sum = 0 then List.replicate ws.length 0 else (spinTo (leftL a ws).toNat (baseL a ws, restL a ws)).1
theorem baseL_at (a : Int) (ws : List Int) (k : Nat) (h : k < ws.length) : (baseL a ws).getD k 0 = a * ws.getD k 0 / ws.sum := by simp [baseL, h]
theorem restL_at (a : Int) (ws : List Int) (k : Nat) (h : k < ws.length) : (restL a ws).getD k 0 = a * ws.getD k 0 % ws.sum := by simp [restL, h]
/-- Weights in their range. -/
def Wts (ws : List Int) : Prop := ∀ z ∈ ws, 0 ≤ z ∧ z ≤ 200000
theorem Wts.sml {ws : List Int} (h : Wts ws) : Go.Proofs.Ytnipnemhbelcaaa.Sml ws := fun z hz => by have := h z hz; omega
theorem sum_nonneg {xs : List Int} (h : ∀ z ∈ xs, 0 ≤ z) : 0 ≤ xs.sum := by
  induction xs with
  | nil => simp
  | cons x xs ih =>
    have h1 := h x (by simp)
    have h2 := ih fun z hz => h z (by simp [hz])
    simp; omega
theorem Wts.at_ {ws : List Int} (h : Wts ws) (k : Nat) : 0 ≤ ws.getD k 0 ∧ ws.getD k 0 ≤ 200000 := by
  by_cases hk : k < ws.length
  · have e : ws.getD k 0 = ws[k] := by simp [hk]
    rw [e]; exact h _ (List.getElem_mem hk)
  · have e : ws.getD k 0 = 0 := by simp [Nat.le_of_not_lt hk]
    rw [e]; omega
/-- The rounded shares are no more than the space. -/
theorem quo_sum (a s : Int) (_ha : 0 ≤ a) (hs : 0 < s) (xs : List Int) (h : ∀ z ∈ xs, 0 ≤ z) : (xs.map fun x => a * x / s).sum * s ≤ a * xs.sum := by
  induction xs with
  | nil => simp
  | cons x xs ih =>
    have h1 := ih fun z hz => h z (by simp [hz])
    have h2 : a * x / s * s ≤ a * x := Int.ediv_mul_le _ (by omega)
    simp only [List.map_cons, List.sum_cons, Int.add_mul, Int.mul_add]
    omega
theorem base_le (a : Int) (ws : List Int) (ha : 0 ≤ a) (hw : Wts ws) (hs : ws.sum ≠ 0) : (baseL a ws).sum ≤ a := by
  have h0 : 0 < ws.sum := by have := sum_nonneg (xs := ws) fun z hz => (hw z hz).1; omega
  have h1 := quo_sum a ws.sum ha h0 ws fun z hz => (hw z hz).1
  exact Int.le_of_mul_le_mul_right h1 h0
theorem mem_le_sum {xs : List Int} (h : ∀ z ∈ xs, 0 ≤ z) {y : Int} (hy : y ∈ xs) : y ≤ xs.sum := by
  induction xs with
  | nil => cases hy
  | cons x xs ih =>
    have h1 := h x (by simp)
    have h2 := sum_nonneg (xs := xs) fun z hz => h z (by simp [hz])
    rcases List.mem_cons.1 hy with rfl | hy
    · simp; omega
    · have := ih (fun z hz => h z (by simp [hz])) hy
      simp; omega
theorem base_bd (a : Int) (ws : List Int) (ha : 0 ≤ a) (hw : Wts ws) (hs : ws.sum ≠ 0) : ∀ z ∈ baseL a ws, 0 ≤ z ∧ z ≤ a := by
  have h0 : 0 < ws.sum := by have := sum_nonneg (xs := ws) fun z hz => (hw z hz).1; omega
  intro z hz
  obtain ⟨x, hx, rfl⟩ := List.mem_map.1 hz
  have h1 := (hw x hx).1
  have h2 := mem_le_sum (xs := ws) (fun z hz => (hw z hz).1) hx
  refine ⟨Int.ediv_nonneg (Int.mul_nonneg ha h1) (by omega), Int.ediv_le_of_le_mul h0 ?_⟩
  exact Int.mul_le_mul_of_nonneg_left h2 ha
theorem mul_bd {a z : Int} (ha : 0 ≤ a ∧ a ≤ 200000) (hz : 0 ≤ z ∧ z ≤ 200000) : 0 ≤ a * z ∧ a * z ≤ 40000000000 := by
  refine ⟨Int.mul_nonneg ha.1 hz.1, ?_⟩
  have h := Int.mul_le_mul ha.2 hz.2 hz.1 (by omega)
  omega
theorem spin_bd (j : Nat) (o r : List Int) (M : Int) (h : ∀ i, 0 ≤ o.getD i 0 ∧ o.getD i 0 ≤ M) : ∀ i, 0 ≤ (spinTo j (o, r)).1.getD i 0 ∧ (spinTo j (o, r)).1.getD i 0 ≤ M + (j : Int) := by
  induction j with
  | zero => intro i; have := h i; show 0 ≤ o.getD i 0 ∧ o.getD i 0 ≤ M + ((0 : Nat) : Int); omega
  | succ j ih =>
    intro i
    have hi := ih i
    have hm := ih (amax (spinTo j (o, r)).2)
    unfold spinTo spin1
    simp only []
    by_cases hl : i < (spinTo j (o, r)).1.length
    · rw [getD_set _ _ _ _ hl]
      split <;> omega
    · have e : ∀ v, ((spinTo j (o, r)).1.set (amax (spinTo j (o, r)).2) v).getD i 0 = 0 := fun v => by simp [Nat.le_of_not_lt hl]
      rw [e]; omega
theorem getD_of_mem {xs : List Int} {lo hi : Int} (h0 : lo ≤ 0 ∧ 0 ≤ hi) (h : ∀ z ∈ xs, lo ≤ z ∧ z ≤ hi) (i : Nat) : lo ≤ xs.getD i 0 ∧ xs.getD i 0 ≤ hi := by
  by_cases hk : i < xs.length
  · have e : xs.getD i 0 = xs[i] := by simp [hk]
    rw [e]; exact h _ (List.getElem_mem hk)
  · have e : xs.getD i 0 = 0 := by simp [Nat.le_of_not_lt hk]
    rw [e]; omega
end Go.Proofs.Ytnipnemhbelcaaa
