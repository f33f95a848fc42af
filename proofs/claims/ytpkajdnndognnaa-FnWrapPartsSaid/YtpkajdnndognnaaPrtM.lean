/- Plain facts on parts that are put into lines: how many a line takes, how high it is, where its parts lie. No condition. -/
import Derived.Test.YtpkajdnndognnaaPrtO
import Derived.Test.YtpkajdnndognnaaSumG
namespace Go.Proofs.Ytpkajdnndognnaa
open Go.RowKit

def pw (zs : List Int) (k : Nat) : Int := zs.getD (k * 2) 0
def ph (zs : List Int) (k : Nat) : Int := zs.getD (k * 2 + 1) 0
/-- The first number from j on, at most f further, at which p fails. -/
def lnG (p : Nat → Bool) : Nat → Nat → Nat
  | 0, j => j
  | f + 1, j => if p j then lnG p f (j + 1) else j
theorem lnG_spec (p : Nat → Bool) : ∀ f j, j ≤ lnG p f j ∧ lnG p f j ≤ j + f ∧ (∀ i, j ≤ i → i < lnG p f j → p i = true) ∧ (lnG p f j < j + f → p (lnG p f j) = false)
  | 0, j => ⟨Nat.le_refl _, Nat.le_refl _, fun i h1 h2 => by simp [lnG] at h2; omega, fun h => by simp [lnG] at h⟩
  | f + 1, j => by
    cases hp : p j
    · have e : lnG p (f + 1) j = j := by simp [lnG, hp]
      rw [e]
      exact ⟨Nat.le_refl _, by omega, fun i h1 h2 => by omega, fun _ => hp⟩
    · have e : lnG p (f + 1) j = lnG p f (j + 1) := by simp [lnG, hp]
      obtain ⟨h1, h2, h3, h4⟩ := lnG_spec p f (j + 1)
      rw [e]
      refine ⟨by omega, by omega, fun i hi1 hi2 => ?_, fun h => h4 (by omega)⟩
      by_cases hij : i = j
      · rw [hij]; exact hp
      · exact h3 i (by omega) hi2
section
variable (zs : List Int) (n : Nat) (wd gap : Int)
/-- The width that j + 1 parts from a on need. -/
def usd (a : Nat) : Nat → Int
  | 0 => pw zs a
  | j + 1 => usd a j + (gap + pw zs (a + j + 1))
/-- How many parts the line takes that begins with part a. -/
def ln (a : Nat) : Nat := lnG (fun j => decide (usd zs gap a j ≤ wd)) (n - a - 1) 1
/-- With which part line k begins. -/
def st : Nat → Nat
  | 0 => 0
  | k + 1 => st k + ln zs n wd gap (st k)
def nlF : Nat → Nat → Nat
  | 0, _ => 0
  | f + 1, a => if a < n then nlF f (a + ln zs n wd gap a) + 1 else 0
/-- The number of lines. -/
def nl : Nat := nlF zs n wd gap n 0
def cnL (k : Nat) : List Int := (List.range k).map fun i => ((ln zs n wd gap (st zs n wd gap i) : Nat) : Int)
/-- The greatest height of j parts from a on. -/
def mxh (a : Nat) : Nat → Int
  | 0 => 0
  | j + 1 => mx (mxh a j) (ph zs (a + j))
def lnH (k : Nat) : Int := mxh zs (st zs n wd gap k) (ln zs n wd gap (st zs n wd gap k))
def htL (k : Nat) : List Int := (List.range k).map fun i => lnH zs n wd gap i
/-- Where line k begins. -/
def tp : Nat → Int
  | 0 => 0
  | k + 1 => tp k + (lnH zs n wd gap k + gap)
/-- Where part j of a line from a on begins. -/
def lf (a : Nat) : Nat → Int
  | 0 => 0
  | j + 1 => lf a j + (pw zs (a + j) + gap)
/-- The rectangles of j parts from a on, at the height y. -/
def rcl (a : Nat) (y : Int) : Nat → List Int
  | 0 => []
  | j + 1 => rcl a y j ++ [lf zs gap a j, y, pw zs (a + j), ph zs (a + j)]
def rcs : Nat → List Int
  | 0 => []
  | k + 1 => rcs k ++ rcl zs gap (st zs n wd gap k) (tp zs n wd gap k) (ln zs n wd gap (st zs n wd gap k))
def wrOk : Bool := prsB n zs && decide (0 ≤ wd ∧ wd ≤ 10000) && decide (0 ≤ gap ∧ gap ≤ 50)
def lcA : List Int := if wrOk zs n wd gap = true then cnL zs n wd gap (nl zs n wd gap) else []
def lhA : List Int := if wrOk zs n wd gap = true then htL zs n wd gap (nl zs n wd gap) else []
def whA : Int := if wrOk zs n wd gap = true then gapSum (htL zs n wd gap (nl zs n wd gap)) gap else -1
def wpA : List Int := if wrOk zs n wd gap = true then rcs zs n wd gap (nl zs n wd gap) else []
end
section
variable {zs : List Int} {n : Nat} {wd gap : Int}
theorem wrOk_iff : wrOk zs n wd gap = true ↔ prsB n zs = true ∧ (0 ≤ wd ∧ wd ≤ 10000) ∧ (0 ≤ gap ∧ gap ≤ 50) := by
  unfold wrOk; rw [Bool.and_eq_true, Bool.and_eq_true, decide_eq_true_eq, decide_eq_true_eq, and_assoc]
theorem ln_ge (a : Nat) : 1 ≤ ln zs n wd gap a := (lnG_spec _ _ _).1
theorem ln_le {a : Nat} (h : a < n) : a + ln zs n wd gap a ≤ n := by have := (lnG_spec (fun j => decide (usd zs gap a j ≤ wd)) (n - a - 1) 1).2.1; unfold ln; omega
theorem ln_in {a j : Nat} (h1 : 1 ≤ j) (h2 : j < ln zs n wd gap a) : usd zs gap a j ≤ wd := by
  have := (lnG_spec (fun j => decide (usd zs gap a j ≤ wd)) (n - a - 1) 1).2.2.1 j h1 h2
  simpa using this
theorem ln_out {a : Nat} (h : a + ln zs n wd gap a < n) : wd < usd zs gap a (ln zs n wd gap a) := by
  have := (lnG_spec (fun j => decide (usd zs gap a j ≤ wd)) (n - a - 1) 1).2.2.2 (by unfold ln at h; omega)
  unfold ln
  simpa using this
/-- Who is as long as a line may be, and no longer, is the line. -/
theorem ln_eq {a L : Nat} (h1 : 1 ≤ L) (h2 : a + L ≤ n) (h3 : ∀ j, 1 ≤ j → j < L → usd zs gap a j ≤ wd) (h4 : a + L = n ∨ wd < usd zs gap a L) : L = ln zs n wd gap a := by
  have ge := ln_ge (zs := zs) (n := n) (wd := wd) (gap := gap) a
  have le := ln_le (zs := zs) (n := n) (wd := wd) (gap := gap) (a := a) (by omega)
  rcases Nat.lt_trichotomy L (ln zs n wd gap a) with h | h | h
  · have := ln_in h1 h
    rcases h4 with h5 | h5 <;> omega
  · exact h
  · have h5 := h3 _ ge h
    have h6 := ln_out (zs := zs) (n := n) (wd := wd) (gap := gap) (a := a) (by omega)
    omega
theorem st_succ (k : Nat) : st zs n wd gap (k + 1) = st zs n wd gap k + ln zs n wd gap (st zs n wd gap k) := rfl
theorem nl_spec : ∀ f k, st zs n wd gap k ≤ n → n - st zs n wd gap k ≤ f → st zs n wd gap (k + nlF zs n wd gap f (st zs n wd gap k)) = n ∧ ∀ j, k ≤ j → j < k + nlF zs n wd gap f (st zs n wd gap k) → st zs n wd gap j < n
  | 0, k, h1, h2 => ⟨by simp [nlF]; omega, fun j h3 h4 => by simp [nlF] at h4; omega⟩
  | f + 1, k, h1, h2 => by
    by_cases h : st zs n wd gap k < n
    · have e : nlF zs n wd gap (f + 1) (st zs n wd gap k) = nlF zs n wd gap f (st zs n wd gap (k + 1)) + 1 := by simp [nlF, h, st_succ]
      have ge := ln_ge (zs := zs) (n := n) (wd := wd) (gap := gap) (st zs n wd gap k)
      have le := ln_le (zs := zs) (n := n) (wd := wd) (gap := gap) h
      have s := st_succ (zs := zs) (n := n) (wd := wd) (gap := gap) k
      obtain ⟨i1, i2⟩ := nl_spec f (k + 1) (by omega) (by omega)
      rw [e]
      refine ⟨by rw [show k + (nlF zs n wd gap f (st zs n wd gap (k + 1)) + 1) = k + 1 + nlF zs n wd gap f (st zs n wd gap (k + 1)) by omega]; exact i1, fun j h3 h4 => ?_⟩
      by_cases hj : j = k
      · rw [hj]; exact h
      · exact i2 j (by omega) (by omega)
    · have e : nlF zs n wd gap (f + 1) (st zs n wd gap k) = 0 := by simp [nlF, h]
      rw [e]
      exact ⟨by rw [Nat.add_zero]; omega, fun j h3 h4 => by omega⟩
theorem st_nl : st zs n wd gap (nl zs n wd gap) = n := by
  have h := (nl_spec (zs := zs) (n := n) (wd := wd) (gap := gap) n 0 (Nat.zero_le _) (Nat.le_refl _)).1
  rw [Nat.zero_add] at h
  exact h
theorem st_lt {k : Nat} (h : k < nl zs n wd gap) : st zs n wd gap k < n :=
  (nl_spec (zs := zs) (n := n) (wd := wd) (gap := gap) n 0 (Nat.zero_le _) (Nat.le_refl _)).2 k (Nat.zero_le _) (by rw [Nat.zero_add]; exact h)
theorem st_ge : ∀ k, k ≤ st zs n wd gap k
  | 0 => Nat.le_refl _
  | k + 1 => by have := st_ge k; have := ln_ge (zs := zs) (n := n) (wd := wd) (gap := gap) (st zs n wd gap k); rw [st_succ]; omega
theorem nl_le : nl zs n wd gap ≤ n := by have h := st_ge (zs := zs) (n := n) (wd := wd) (gap := gap) (nl zs n wd gap); rw [st_nl] at h; exact h
theorem line_in {k : Nat} (h : k < nl zs n wd gap) : st zs n wd gap k + ln zs n wd gap (st zs n wd gap k) ≤ n := ln_le (st_lt h)
/-- At most as many lines as make up the parts: the line that ends the parts is the last one. -/
theorem nl_of {k : Nat} (hk : k ≤ nl zs n wd gap) (h : n ≤ st zs n wd gap k) : k = nl zs n wd gap := by
  rcases Nat.lt_or_ge k (nl zs n wd gap) with h1 | h1
  · have := st_lt h1; omega
  · omega
theorem cnL_len (k : Nat) : (cnL zs n wd gap k).length = k := by simp [cnL]
theorem htL_len (k : Nat) : (htL zs n wd gap k).length = k := by simp [htL]
theorem cnL_step (k : Nat) : cnL zs n wd gap (k + 1) = cnL zs n wd gap k ++ [((ln zs n wd gap (st zs n wd gap k) : Nat) : Int)] := by simp [cnL, List.range_succ]
theorem htL_step (k : Nat) : htL zs n wd gap (k + 1) = htL zs n wd gap k ++ [lnH zs n wd gap k] := by simp [htL, List.range_succ]
theorem cnL_at {k i : Nat} (h : i < k) : (cnL zs n wd gap k).getD i 0 = ((ln zs n wd gap (st zs n wd gap i) : Nat) : Int) := by simp [cnL, h]
theorem htL_at {k i : Nat} (h : i < k) : (htL zs n wd gap k).getD i 0 = lnH zs n wd gap i := by simp [htL, h]
theorem rcl_len (a : Nat) (y : Int) : ∀ j, (rcl zs gap a y j).length = j * 4
  | 0 => rfl
  | j + 1 => by rw [rcl, List.length_append, rcl_len a y j]; simp; omega
theorem rcs_len : ∀ k, (rcs zs n wd gap k).length = st zs n wd gap k * 4
  | 0 => rfl
  | k + 1 => by rw [rcs, List.length_append, rcs_len k, rcl_len, st_succ]; omega
theorem pr_bd (h : prsB n zs = true) {k : Nat} (hk : k < n) : (0 ≤ pw zs k ∧ pw zs k ≤ 10000) ∧ (0 ≤ ph zs k ∧ ph zs k ≤ 10000) := okPr_iff.1 ((prsB_iff.1 h).2 k hk)
theorem usd_bd (h : prsB n zs = true) (hg : 0 ≤ gap ∧ gap ≤ 50) {a : Nat} : ∀ j, a + j < n → 0 ≤ usd zs gap a j ∧ usd zs gap a j ≤ 10050 * ((j : Int) + 1)
  | 0, hj => by have := (pr_bd h hj).1; show 0 ≤ pw zs a ∧ pw zs a ≤ _; simp at this; omega
  | j + 1, hj => by
    have ih := usd_bd h hg (a := a) j (by omega)
    have := (pr_bd h (k := a + j + 1) (by omega)).1
    show 0 ≤ usd zs gap a j + (gap + pw zs (a + j + 1)) ∧ usd zs gap a j + (gap + pw zs (a + j + 1)) ≤ _
    omega
theorem mxh_bd (h : prsB n zs = true) {a : Nat} : ∀ j, a + j ≤ n → 0 ≤ mxh zs a j ∧ mxh zs a j ≤ 10000
  | 0, _ => ⟨Int.le_refl _, by show (0 : Int) ≤ _; omega⟩
  | j + 1, hj => by
    have ih := mxh_bd h (a := a) j (by omega)
    have := (pr_bd h (k := a + j) (by omega)).2
    show 0 ≤ mx (mxh zs a j) (ph zs (a + j)) ∧ mx (mxh zs a j) (ph zs (a + j)) ≤ _
    unfold mx
    omega
theorem lnH_bd (h : prsB n zs = true) {k : Nat} (hk : k < nl zs n wd gap) : 0 ≤ lnH zs n wd gap k ∧ lnH zs n wd gap k ≤ 10000 := mxh_bd h _ (line_in hk)
theorem tp_bd (h : prsB n zs = true) (hg : 0 ≤ gap ∧ gap ≤ 50) : ∀ k, k ≤ nl zs n wd gap → 0 ≤ tp zs n wd gap k ∧ tp zs n wd gap k ≤ 10050 * (k : Int)
  | 0, _ => ⟨Int.le_refl _, by simp [tp]⟩
  | k + 1, hk => by
    have ih := tp_bd h hg k (by omega)
    have := lnH_bd h (wd := wd) (gap := gap) (k := k) (by omega)
    show 0 ≤ tp zs n wd gap k + (lnH zs n wd gap k + gap) ∧ tp zs n wd gap k + (lnH zs n wd gap k + gap) ≤ _
    omega
theorem lf_bd (h : prsB n zs = true) (hg : 0 ≤ gap ∧ gap ≤ 50) {a : Nat} : ∀ j, a + j ≤ n → 0 ≤ lf zs gap a j ∧ lf zs gap a j ≤ 10050 * (j : Int)
  | 0, _ => ⟨Int.le_refl _, by simp [lf]⟩
  | j + 1, hj => by
    have ih := lf_bd h hg (a := a) j (by omega)
    have := (pr_bd h (k := a + j) (by omega)).1
    show 0 ≤ lf zs gap a j + (pw zs (a + j) + gap) ∧ lf zs gap a j + (pw zs (a + j) + gap) ≤ _
    omega
theorem n_le (h : prsB n zs = true) : n ≤ 12 := by have := (prsB_iff.1 h).1; omega
theorem lcA_len : (lcA zs n wd gap).length ≤ 12 := by
  unfold lcA
  split
  · next h => rw [cnL_len]; have := n_le (wrOk_iff.1 h).1; have := nl_le (zs := zs) (n := n) (wd := wd) (gap := gap); omega
  · simp
theorem lhA_len : (lhA zs n wd gap).length ≤ 12 := by
  unfold lhA
  split
  · next h => rw [htL_len]; have := n_le (wrOk_iff.1 h).1; have := nl_le (zs := zs) (n := n) (wd := wd) (gap := gap); omega
  · simp
theorem wpA_len : ∃ m, (wpA zs n wd gap).length = m * 4 ∧ m ≤ 12 := by
  unfold wpA
  split
  · next h => exact ⟨n, by rw [rcs_len, st_nl], n_le (wrOk_iff.1 h).1⟩
  · exact ⟨0, rfl, by omega⟩
end
end Go.Proofs.Ytpkajdnndognnaa
