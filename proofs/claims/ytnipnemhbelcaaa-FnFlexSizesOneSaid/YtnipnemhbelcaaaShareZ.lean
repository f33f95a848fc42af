/- ShareSpace of the program and of the reference answer alike; the law FnExactShareSpace, walked. Condition: the weights can be read. -/
import Derived.Test.YtnipnemhbelcaaaShareX
import Derived.Test.YtnipnemhbelcaaaLawEShareSpace
namespace Go.Proofs.Ytnipnemhbelcaaa
open Go.RowKit

/-- The shares, or nothing for arguments that are not valid. -/
def shareA (a : Int) (ws : List Int) : List Int := if shOk a ws = true then shareL a ws else []
theorem shareL_len (a : Int) (ws : List Int) : (shareL a ws).length = ws.length := by
  unfold shareL
  split
  · simp
  · rw [(spinTo_len _ _).1]
    exact baseL_len a ws
theorem split_ans {w w' : World} {n : Nat} {a : Int} {ws : List Int} {e : Ending} (hl : ws.length = n) (h : Split w n a ws e w') : Ans w (shareA a ws) e w' := by
  unfold Split at h
  unfold shareA
  split
  · next hk =>
    rw [if_pos hk] at h
    obtain ⟨g, he, hg, hR, hN⟩ := h
    exact Ans.row he ((shareL_len a ws).trans hl) hg hR hN
  · next hk =>
    rw [if_neg hk] at h
    exact Ans.none_ h.1 h.2
theorem ShareSpace_ans (a : Int) (ws : List Int) (B : Option Addr) (m d : Nat) (W : World) (hx : Ints W B m ws) (hm : m ≤ 1048576) :
    Calls Try.prog 57 #[.int .i64 a, .slice B m d] W (Ans W (shareA a ws)) :=
  (ShareSpace_any B m d a ws hm W hx).mono fun _ _ h => split_ans hx.len h
theorem rowB_len {hi : Int} {xs : List Int} (h : rowB hi xs = true) : 1 ≤ xs.length ∧ xs.length ≤ 8 := by
  unfold rowB at h
  rw [Bool.and_eq_true, decide_eq_true_eq] at h
  omega
theorem shareA_len (a : Int) (ws : List Int) : (shareA a ws).length ≤ 8 := by
  unfold shareA
  split
  · next hk =>
    unfold shOk at hk
    rw [Bool.and_eq_true] at hk
    rw [shareL_len]
    exact (rowB_len hk.2).2
  · simp
end Go.Proofs.Ytnipnemhbelcaaa
