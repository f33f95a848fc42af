/- Plain facts on frames: a larger first budget, and budgets that are halved into two frames. No condition. -/
import Derived.Test.YteofjfglmngmnaaFrameE
namespace Go.Proofs.Yteofjfglmngmnaa
open Go.RowKit

theorem Own.some_ {lo m : Nat} {w : World} {v : Value} {zs : List Int} (h : Own lo w v zs) (hl : zs.length = m) (hp : 0 < m) : ∃ g c, v = .slice (some ⟨g, 0, none⟩) m c ∧ lo ≤ g ∧ Row w g zs ∧ m ≤ c := by
  rcases h.form with ⟨_, rfl⟩ | ⟨g, c, rfl, hg, hR, hc, _⟩
  · simp at hl; omega
  · subst hl; exact ⟨g, c, rfl, hg, hR, hc⟩
theorem ints2 (w : World) (x y : Int) (t : TypeId) : Ints (w.alloc (.cells #[.int .i64 x, .int .i64 y] t)) (some ⟨w.heap.size, 0, none⟩) 2 [x, y] :=
  ⟨rfl, fun _ => ⟨w.heap.size, 0, rfl, by simp, fun i hi => by
    rcases (by omega : i = 0 ∨ i = 1) with rfl | rfl <;> simp [go_sem]⟩⟩
theorem getD_inF {ms : List Int} {k : Nat} (hk : k < ms.length) : ms.getD k 0 ∈ ms := by
  rw [List.getD_eq_getElem?_getD, List.getElem?_eq_getElem hk]
  exact List.getElem_mem hk
section
variable {cs bs : List Int} {need : Int} {i k m : Nat}
theorem cum_more (h : 0 < bs.length) (k : Nat) : cumS (bs.set 0 (bs.getD 0 0 + 1)) (k + 1) = cumS bs (k + 1) + 1 := by
  cases bs with
  | nil => simp at h
  | cons b r =>
    unfold cumS
    simp
    omega
theorem frame_more (h : 0 < bs.length) (m : Nat) (hf : 0 ≤ frameOf bs need m) : 0 ≤ frameOf (bs.set 0 (bs.getD 0 0 + 1)) need m ∧ frameOf (bs.set 0 (bs.getD 0 0 + 1)) need m ≤ frameOf bs need m := by
  rcases frameOf_cases (bs := bs) need m with ⟨e, _⟩ | ⟨k, hk, e, h2, h3⟩
  · omega
  · rcases frameOf_cases (bs := bs.set 0 (bs.getD 0 0 + 1)) need m with ⟨_, h4⟩ | ⟨q, hq, e2, h4, _⟩
    · have := h4 k hk; rw [cum_more h] at this; omega
    · by_cases hqk : q ≤ k
      · omega
      · have := h4 k (by omega); rw [cum_more h] at this; omega
theorem Jobs.more (h : Jobs bs) (_hp : 0 < bs.length) (hb : bs.getD 0 0 ≠ 1000) : Jobs (bs.set 0 (bs.getD 0 0 + 1)) :=
  ⟨by rw [List.length_set]; exact h.len, fun z hz => by
    rcases List.mem_or_eq_of_mem_set hz with h1 | h1
    · exact h.in_ z h1
    · have := h.at_ 0; omega⟩
/-- Each budget halved. -/
def hL : List Int → List Int
  | [] => []
  | b :: r => b.tdiv 2 :: (b - b.tdiv 2) :: hL r
theorem hL_len (bs : List Int) : (hL bs).length = 2 * bs.length := by
  induction bs with
  | nil => rfl
  | cons b r ih => simp only [hL, List.length_cons, ih]; omega
theorem hL_app (xs ys : List Int) : hL (xs ++ ys) = hL xs ++ hL ys := by
  induction xs with
  | nil => rfl
  | cons b r ih => simp only [List.cons_append, hL, ih]
theorem hL_snoc (h : k < bs.length) : hL (bs.take (k + 1)) = hL (bs.take k) ++ [(bs.getD k 0).tdiv 2, bs.getD k 0 - (bs.getD k 0).tdiv 2] := by
  have e : bs.take (k + 1) = bs.take k ++ [bs.getD k 0] := by
    rw [List.take_add_one, List.getD_eq_getElem?_getD, List.getElem?_eq_getElem h]; rfl
  rw [e, hL_app]
  rfl
theorem tdiv2 (b : Int) : (0 ≤ b → 0 ≤ b.tdiv 2 ∧ b.tdiv 2 ≤ b ∧ 2 * b.tdiv 2 ≤ b ∧ b ≤ 2 * b.tdiv 2 + 1) ∧ (b ≤ 0 → b ≤ b.tdiv 2 ∧ b.tdiv 2 ≤ 0) := by
  constructor
  · intro h
    rw [Int.tdiv_eq_ediv_of_nonneg h]
    omega
  · intro h
    have e : b.tdiv 2 = -((-b) / 2) := by
      rw [← Int.tdiv_eq_ediv_of_nonneg (by omega), Int.neg_tdiv]; simp
    rw [e]
    omega
theorem hL_jobs (h : Jobs bs) (hl : 2 * bs.length ≤ 12) : Jobs (hL bs) := by
  refine ⟨by rw [hL_len]; exact hl, ?_⟩
  have h2 := h.in_
  clear h hl
  induction bs with
  | nil => intro z hz; simp [hL] at hz
  | cons b r ih =>
    intro z hz
    have hb := h2 b (by simp)
    have := (tdiv2 b).1 hb.1
    simp only [hL, List.mem_cons] at hz
    rcases hz with rfl | rfl | hz
    · omega
    · omega
    · exact ih (fun y hy => h2 y (by simp [hy])) z hz
theorem hL_cum (bs : List Int) (k : Nat) : cumS (hL bs) (2 * k) = cumS bs k := by
  induction k generalizing bs with
  | zero => simp [cumS]
  | succ k ih =>
    cases bs with
    | nil => simp [hL, cumS]
    | cons b r =>
      have := ih r
      unfold cumS at this ⊢
      simp only [hL, show 2 * (k + 1) = 2 * k + 1 + 1 by omega, List.take_succ_cons, List.sum_cons, this]
      omega
theorem hL_frame (h : Jobs bs) (hl : 2 * bs.length ≤ 12) (m : Nat) (_hm : m ≤ bs.length) :
    (frameOf (hL bs) need (2 * m) < 0 → frameOf bs need m < 0) ∧ (0 ≤ frameOf (hL bs) need (2 * m) → (frameOf (hL bs) need (2 * m)).tdiv 2 = frameOf bs need m) := by
  have hj := hL_jobs h hl
  rcases frameOf_cases (bs := hL bs) need (2 * m) with ⟨e, h1⟩ | ⟨q, hq, e, h1, h2⟩
  · refine ⟨fun _ => ?_, fun hh => by omega⟩
    rw [frameOf_no m fun f hf => ?_]
    · omega
    · have := h1 (2 * f + 1) (by omega)
      rw [show 2 * f + 1 + 1 = 2 * (f + 1) by omega, hL_cum] at this
      exact this
  · refine ⟨fun hh => by omega, fun _ => ?_⟩
    have e2 : frameOf bs need m = ((q / 2 : Nat) : Int) := by
      refine frameOf_yes m (q / 2) (by omega) (fun f hf => ?_) ?_
      · have := h1 (2 * f + 1) (by omega)
        rw [show 2 * f + 1 + 1 = 2 * (f + 1) by omega, hL_cum] at this
        exact this
      · rw [← hL_cum]
        exact Int.le_trans h2 (hj.mono (by omega))
    rw [e, e2, Int.tdiv_eq_ediv_of_nonneg (by omega)]
    omega
end
end Go.Proofs.Yteofjfglmngmnaa
