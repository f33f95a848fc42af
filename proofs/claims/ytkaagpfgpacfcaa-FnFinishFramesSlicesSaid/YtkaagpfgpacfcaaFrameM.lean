/- Plain facts on frames: jobs that are done one behind the other, what is left of them, in which frame each is done. No condition. -/
import Derived.Test.YtkaagpfgpacfcaaShareM
import Derived.Test.YtkaagpfgpacfcaaInts2
namespace Go.Proofs.Ytkaagpfgpacfcaa

/-- What the first k numbers add up to. -/
def cumS (xs : List Int) (k : Nat) : Int := (xs.take k).sum
theorem cumS_zero (xs : List Int) : cumS xs 0 = 0 := by simp [cumS]
theorem cumS_succ {xs : List Int} {k : Nat} (h : k < xs.length) : cumS xs (k + 1) = cumS xs k + xs.getD k 0 := sum_snoc h
theorem cumS_all (xs : List Int) : cumS xs xs.length = xs.sum := by simp [cumS]
theorem cumS_over {xs : List Int} {k : Nat} (h : xs.length ≤ k) : cumS xs k = xs.sum := by unfold cumS; rw [List.take_of_length_le h]
/-- At most twelve numbers from 0 to 1000. -/
structure Jobs (xs : List Int) : Prop where
  len : xs.length ≤ 12
  in_ : ∀ z ∈ xs, 0 ≤ z ∧ z ≤ 1000
def jobB (xs : List Int) : Bool := decide (xs.length ≤ 12) && allB 0 1000 xs
theorem jobB_iff {xs : List Int} : jobB xs = true ↔ Jobs xs := by
  unfold jobB
  rw [Bool.and_eq_true, decide_eq_true_eq, allB_iff]
  exact ⟨fun h => ⟨h.1, h.2⟩, fun h => ⟨h.len, h.in_⟩⟩
theorem ext_at {xs ys : List Int} (hl : xs.length = ys.length) (h : ∀ i, i < xs.length → xs.getD i 0 = ys.getD i 0) : xs = ys := by
  apply List.ext_getElem hl
  intro i h1 h2
  have := h i h1
  simpa [h1, h2] using this
section
variable {cs bs : List Int} {T U : Int} {i d : Nat}
theorem Jobs.at_ (h : Jobs cs) (i : Nat) : 0 ≤ cs.getD i 0 ∧ cs.getD i 0 ≤ 1000 := getD_of_mem ⟨by omega, by omega⟩ h.in_ i
theorem Jobs.sml (h : Jobs cs) : Go.Proofs.Ytkaagpfgpacfcaa.Sml cs := fun z hz => by have := h.in_ z hz; omega
theorem Jobs.mono (h : Jobs cs) {j k : Nat} (hjk : j ≤ k) : cumS cs j ≤ cumS cs k := by
  induction k with
  | zero => obtain rfl : j = 0 := by omega
            exact Int.le_refl _
  | succ k ih =>
    by_cases e : j = k + 1
    · subst e; exact Int.le_refl _
    · have h1 := ih (by omega)
      by_cases hk : k < cs.length
      · rw [cumS_succ hk]; have := h.at_ k; omega
      · rw [cumS_over (k := k + 1) (by omega)]; rw [cumS_over (k := k) (by omega)] at h1; exact h1
theorem Jobs.bd (h : Jobs cs) (k : Nat) : 0 ≤ cumS cs k ∧ cumS cs k ≤ 12000 := by
  have h0 := h.mono (Nat.zero_le k)
  rw [cumS_zero] at h0
  refine ⟨h0, ?_⟩
  have key : ∀ j, j ≤ cs.length → cumS cs j ≤ 1000 * (j : Int) := fun j => by
    induction j with
    | zero => intro _; rw [cumS_zero]; simp
    | succ j ih => intro hj; rw [cumS_succ (by omega)]; have := ih (by omega); have := h.at_ j; omega
  have h1 := key cs.length (Nat.le_refl _)
  have h2 := h.len
  by_cases hk : k ≤ cs.length
  · have := h.mono hk; omega
  · rw [cumS_over (by omega), ← cumS_all]; omega
theorem Jobs.sum_bd (h : Jobs cs) : 0 ≤ cs.sum ∧ cs.sum ≤ 12000 := by rw [← cumS_all]; exact h.bd _
theorem Jobs.top (h : Jobs cs) (k : Nat) : cumS cs k ≤ cs.sum := by
  by_cases hk : k ≤ cs.length
  · rw [← cumS_all]; exact h.mono hk
  · rw [cumS_over (by omega)]; exact Int.le_refl _
/-- What is left of a job once the jobs took T together. -/
def remC (cs : List Int) (T : Int) (i : Nat) : Int := if cumS cs (i + 1) ≤ T then 0 else if cumS cs i ≤ T then cumS cs (i + 1) - T else cs.getD i 0
def remL (cs : List Int) (T : Int) : List Int := (List.range cs.length).map (remC cs T)
theorem remL_len (cs : List Int) (T : Int) : (remL cs T).length = cs.length := by simp [remL]
theorem remL_at (h : i < cs.length) : (remL cs T).getD i 0 = remC cs T i := by simp [remL, h]
theorem remL_zero (h : Jobs cs) : remL cs 0 = cs := by
  refine ext_at (remL_len _ _) fun i hi => ?_
  rw [remL_len] at hi
  rw [remL_at hi]
  have h1 := cumS_succ hi
  have h2 := h.at_ i
  have h3 := (h.bd i).1
  unfold remC
  split
  · omega
  · split <;> omega
theorem remC_here (h1 : cumS cs d ≤ T) (h2 : T ≤ cumS cs (d + 1)) : remC cs T d = cumS cs (d + 1) - T := by
  unfold remC
  split
  · omega
  · first | rfl | rw [if_pos h1]
theorem remL_set (h : Jobs cs) (h1 : cumS cs d ≤ T) (h2 : T ≤ U) (h3 : U ≤ cumS cs (d + 1)) : (remL cs T).set d (cumS cs (d + 1) - U) = remL cs U := by
  refine ext_at (by rw [List.length_set, remL_len, remL_len]) fun i hi => ?_
  rw [List.length_set] at hi
  rw [getD_set _ _ _ _ hi]
  rw [remL_len] at hi
  rw [remL_at hi, remL_at hi]
  have c1 := cumS_succ hi
  have c2 := h.at_ i
  by_cases e : d = i
  · subst e
    rw [if_pos rfl, remC_here (by omega) h3]
  · rw [if_neg e]
    rcases Nat.lt_or_gt_of_ne e with e | e
    · have m1 := h.mono (show d + 1 ≤ i from e)
      unfold remC
      split <;> split <;> first | omega | (split <;> first | omega | (split <;> omega))
    · have m1 := h.mono (show i + 1 ≤ d from e)
      unfold remC
      rw [if_pos (by omega), if_pos (by omega)]
theorem remL_min (h : Jobs cs) : remL cs (mn T cs.sum) = remL cs T := by
  refine ext_at (by rw [remL_len, remL_len]) fun i hi => ?_
  rw [remL_len] at hi
  rw [remL_at hi, remL_at hi]
  have t := h.top (i + 1)
  have t0 := h.mono (Nat.le_succ i)
  by_cases e : T ≤ cs.sum
  · have : mn T cs.sum = T := by unfold mn; omega
    rw [this]
  · have : mn T cs.sum = cs.sum := by unfold mn; omega
    rw [this]
    unfold remC
    rw [if_pos t, if_pos (by omega)]
theorem rem_step (hd : i < cs.length) (h : Jobs cs) : cs.getD i 0 - mn (mx 0 (T - cumS cs i)) (cs.getD i 0) = remC cs T i ∧ mx 0 (T - cumS cs i) - mn (mx 0 (T - cumS cs i)) (cs.getD i 0) = mx 0 (T - cumS cs (i + 1)) := by
  have c1 := cumS_succ hd
  have c2 := h.at_ i
  unfold mn mx remC
  constructor
  · split
    · omega
    · split <;> omega
  · omega
theorem remC_bd (h : Jobs cs) (hd : i < cs.length) : 0 ≤ remC cs T i ∧ remC cs T i ≤ cs.getD i 0 := by
  have c1 := cumS_succ hd
  have c2 := h.at_ i
  unfold remC
  split
  · omega
  · split <;> omega
theorem rem_cum (h : Jobs cs) (hT : 0 ≤ T) (k : Nat) (hk : k ≤ cs.length) : cumS (remL cs T) k = mx 0 (cumS cs k - T) := by
  induction k with
  | zero => rw [cumS_zero, cumS_zero]; unfold mx; omega
  | succ k ih =>
    have hk' : k < cs.length := by omega
    rw [cumS_succ (by rw [remL_len]; exact hk'), ih (by omega), remL_at hk']
    have c1 := cumS_succ hk'
    have c2 := h.at_ k
    unfold remC mx
    split
    · omega
    · split <;> omega
theorem rem_sum (h : Jobs cs) (hT : 0 ≤ T) : (remL cs T).sum = mx 0 (cs.sum - T) := by
  rw [← cumS_all, remL_len, rem_cum h hT _ (Nat.le_refl _), cumS_all]
theorem rem_jobs (h : Jobs cs) : Jobs (remL cs T) := by
  refine ⟨by rw [remL_len]; exact h.len, fun z hz => ?_⟩
  obtain ⟨i, hi, rfl⟩ := List.mem_iff_getElem.1 hz
  have e : (remL cs T).getD i 0 = (remL cs T)[i] := by simp [hi]
  rw [← e]
  rw [remL_len] at hi
  rw [remL_at hi]
  have h1 := remC_bd (T := T) h hi
  have h2 := h.at_ i
  omega
/-- What is left of what is left. -/
theorem rem_rem (h : Jobs cs) (hT : 0 ≤ T) (hU : 0 ≤ U) : remL (remL cs T) U = remL cs (T + U) := by
  refine ext_at (by rw [remL_len, remL_len, remL_len]) fun i hi => ?_
  rw [remL_len, remL_len] at hi
  rw [remL_at (by rw [remL_len]; exact hi), remL_at hi]
  have c1 := cumS_succ hi
  have c2 := h.at_ i
  have r1 := rem_cum h hT i (by omega)
  have r2 := rem_cum h hT (i + 1) hi
  have r3 := remL_at (T := T) hi
  have t0 := h.mono (Nat.le_succ i)
  unfold remC at r3 ⊢
  rw [r1, r2, r3]
  unfold mx
  split <;> split <;> first | omega | (split <;> first | omega | (split <;> first | omega | (split <;> omega)))
/-- The first frame, among the first m, in which so much is done; -1 if there is none. -/
def frameOf (bs : List Int) (need : Int) : Nat → Int
  | 0 => -1
  | m + 1 => if 0 ≤ frameOf bs need m then frameOf bs need m else if need ≤ cumS bs (m + 1) then (m : Int) else -1
theorem frameOf_no {need : Int} (m : Nat) (h : ∀ f, f < m → cumS bs (f + 1) < need) : frameOf bs need m = -1 := by
  induction m with
  | zero => rfl
  | succ m ih =>
    have h1 := ih fun f hf => h f (by omega)
    have h2 := h m (by omega)
    unfold frameOf
    rw [h1, if_neg (by omega), if_neg (by omega)]
theorem frameOf_yes {need : Int} (m k : Nat) (hk : k < m) (h : ∀ f, f < k → cumS bs (f + 1) < need) (hn : need ≤ cumS bs (k + 1)) : frameOf bs need m = (k : Int) := by
  induction m with
  | zero => omega
  | succ m ih =>
    by_cases e : k = m
    · subst e
      unfold frameOf
      rw [frameOf_no k h, if_neg (by omega), if_pos hn]
    · have h1 := ih (by omega)
      unfold frameOf
      rw [h1, if_pos (by omega)]
theorem frameOf_cases (need : Int) (m : Nat) : (frameOf bs need m = -1 ∧ ∀ f, f < m → cumS bs (f + 1) < need) ∨ ∃ k, k < m ∧ frameOf bs need m = (k : Int) ∧ (∀ f, f < k → cumS bs (f + 1) < need) ∧ need ≤ cumS bs (k + 1) := by
  induction m with
  | zero => exact .inl ⟨rfl, fun f hf => by omega⟩
  | succ m ih =>
    rcases ih with ⟨h1, h2⟩ | ⟨k, hk, h1, h2, h3⟩
    · by_cases e : need ≤ cumS bs (m + 1)
      · exact .inr ⟨m, by omega, frameOf_yes _ _ (by omega) h2 e, h2, e⟩
      · refine .inl ⟨frameOf_no _ fun f hf => ?_, fun f hf => ?_⟩ <;>
        · by_cases e2 : f = m
          · subst e2; omega
          · exact h2 f (by omega)
    · exact .inr ⟨k, by omega, frameOf_yes _ _ (by omega) h2 h3, h2, h3⟩
/-- In which frame each job is done. -/
def doneL (cs bs : List Int) : List Int := (List.range cs.length).map fun i => frameOf bs (cumS cs (i + 1)) bs.length
theorem doneL_len (cs bs : List Int) : (doneL cs bs).length = cs.length := by simp [doneL]
theorem doneL_at (h : i < cs.length) : (doneL cs bs).getD i 0 = frameOf bs (cumS cs (i + 1)) bs.length := by simp [doneL, h]
def jobsB (cs bs : List Int) : Bool := jobB cs && jobB bs
theorem jobsB_iff : jobsB cs bs = true ↔ Jobs cs ∧ Jobs bs := by unfold jobsB; rw [Bool.and_eq_true, jobB_iff, jobB_iff]
def doneA (cs bs : List Int) : List Int := if jobsB cs bs = true then doneL cs bs else []
def remA (cs bs : List Int) : List Int := if jobsB cs bs = true then remL cs bs.sum else []
def idleA (cs bs : List Int) : Int := if jobsB cs bs = true then mx 0 (bs.sum - cs.sum) else -1
def needA (cs : List Int) (b : Int) : Int := if jobB cs = true ∧ 1 ≤ b ∧ b ≤ 1000 then (cs.sum + b - 1) / b else -1
theorem doneA_len : (doneA cs bs).length ≤ 12 := by
  unfold doneA
  split
  · next h => rw [doneL_len]; exact (jobsB_iff.1 h).1.len
  · simp
theorem remA_len : (remA cs bs).length ≤ 12 := by
  unfold remA
  split
  · next h => rw [remL_len]; exact (jobsB_iff.1 h).1.len
  · simp
end
end Go.Proofs.Ytkaagpfgpacfcaa
