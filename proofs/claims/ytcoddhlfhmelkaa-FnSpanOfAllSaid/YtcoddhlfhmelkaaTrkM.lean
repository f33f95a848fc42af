/- Plain facts on tracks of a grid: which are valid, their sizes, where they begin. No condition. -/
import Derived.Test.YtcoddhlfhmelkaaTrkO
import Derived.Test.YtcoddhlfhmelkaaSumG
import Derived.Test.YtcoddhlfhmelkaaShareZ
import Derived.Test.YtcoddhlfhmelkaaShareK2
namespace Go.Proofs.Ytcoddhlfhmelkaa
open Go.RowKit

def szL (n : Nat) (zs : List Int) : List Int := colL 2 0 n zs
def ptL (n : Nat) (zs : List Int) : List Int := colL 2 1 n zs
/-- What is left of a space for tracks with parts. -/
def leftT (n : Nat) (zs : List Int) (space gap : Int) : Int := mx 0 (space - gapSum (szL n zs) gap)
def tsL (n : Nat) (zs : List Int) (space gap : Int) : List Int := (List.range n).map fun k => zs.getD (k * 2) 0 + (shareL (leftT n zs space gap) (ptL n zs)).getD k 0
def tsOk (n : Nat) (zs : List Int) (space gap : Int) : Bool := trsB n zs && decide (0 ≤ space ∧ space ≤ 200000) && decide (0 ≤ gap ∧ gap ≤ 50)
def tsA (n : Nat) (zs : List Int) (space gap : Int) : List Int := if tsOk n zs space gap = true then tsL n zs space gap else []
section
variable {n k : Nat} {zs : List Int} {space gap : Int}
theorem tsOk_iff : tsOk n zs space gap = true ↔ trsB n zs = true ∧ (0 ≤ space ∧ space ≤ 200000) ∧ (0 ≤ gap ∧ gap ≤ 50) := by
  unfold tsOk; rw [Bool.and_eq_true, Bool.and_eq_true, decide_eq_true_eq, decide_eq_true_eq, and_assoc]
theorem szL_len (n : Nat) (zs : List Int) : (szL n zs).length = n := colL_len _ _ _ _
theorem ptL_len (n : Nat) (zs : List Int) : (ptL n zs).length = n := colL_len _ _ _ _
theorem tsL_len (n : Nat) (zs : List Int) (space gap : Int) : (tsL n zs space gap).length = n := by simp [tsL]
theorem tsA_len (n : Nat) (zs : List Int) (space gap : Int) : (tsA n zs space gap).length ≤ 8 := by
  unfold tsA
  split
  · next h => have h1 := (trsB_iff.1 (tsOk_iff.1 h).1).1; rw [tsL_len]; omega
  · simp
theorem szL_at (h : k < n) : (szL n zs).getD k 0 = zs.getD (k * 2) 0 := by unfold szL; rw [colL_at _ _ _ _ _ h]; rfl
theorem ptL_at (h : k < n) : (ptL n zs).getD k 0 = zs.getD (k * 2 + 1) 0 := by unfold ptL; rw [colL_at _ _ _ _ _ h]
theorem tsL_at (h : k < n) : (tsL n zs space gap).getD k 0 = zs.getD (k * 2) 0 + (shareL (leftT n zs space gap) (ptL n zs)).getD k 0 := by simp [tsL, h]
theorem szL_mem (h : ∀ k, k < n → trOk zs k = true) : ∀ z ∈ szL n zs, 0 ≤ z ∧ z ≤ 10000 := fun z hz => by
  obtain ⟨k, hk, rfl⟩ := colL_mem hz
  exact (okTr_iff.1 (h k hk)).1
theorem ptL_mem (h : ∀ k, k < n → trOk zs k = true) : ∀ z ∈ ptL n zs, 0 ≤ z ∧ z ≤ 10 := fun z hz => by
  obtain ⟨k, hk, rfl⟩ := colL_mem hz
  exact (okTr_iff.1 (h k hk)).2.1
theorem gapSum_bd (hn : 1 ≤ (n : Int) ∧ (n : Int) ≤ 8) (h : ∀ k, k < n → trOk zs k = true) (hg : 0 ≤ gap ∧ gap ≤ 50) : 0 ≤ gapSum (szL n zs) gap ∧ gapSum (szL n zs) gap ≤ 1000000 := by
  rw [gapSum_pos (szL_len n zs) (by omega)]
  have h0 := sum_nonneg (xs := szL n zs) fun z hz => (szL_mem h z hz).1
  have hg2 := gapp_bd (g := gap) (n := (n : Int) - 1) hg (by omega)
  have hs : (szL n zs).sum ≤ 10000 * (n : Int) := by
    have := sumL_le (xs := szL n zs) (M := 10000) fun z hz => (szL_mem h z hz).2
    rw [szL_len] at this
    exact this
  omega
theorem leftT_bd (hn : 1 ≤ (n : Int) ∧ (n : Int) ≤ 8) (h : ∀ k, k < n → trOk zs k = true) (hs : 0 ≤ space ∧ space ≤ 200000) (hg : 0 ≤ gap ∧ gap ≤ 50) : 0 ≤ leftT n zs space gap ∧ leftT n zs space gap ≤ 200000 := by
  have := gapSum_bd hn h hg
  unfold leftT mx
  omega
theorem share_bd {a : Int} {ws : List Int} (ha : 0 ≤ a) (hw : Wts ws) (i : Nat) : 0 ≤ (shareL a ws).getD i 0 ∧ (shareL a ws).getD i 0 ≤ a := by
  by_cases hs : ws.sum = 0
  · have e : (shareL a ws).getD i 0 = 0 := by
      unfold shareL
      rw [if_pos hs]
      by_cases hi : i < ws.length
      · simp [hi]
      · simp [show ws.length ≤ i by omega]
    omega
  · exact share_le ha hw hs i
theorem share_wts (h : ∀ k, k < n → trOk zs k = true) : Wts (ptL n zs) := fun z hz => by have := ptL_mem h z hz; omega
theorem share_ok (hn : 1 ≤ (n : Int) ∧ (n : Int) ≤ 8) (h : ∀ k, k < n → trOk zs k = true) (hs : 0 ≤ space ∧ space ≤ 200000) (hg : 0 ≤ gap ∧ gap ≤ 50) : shareA (leftT n zs space gap) (ptL n zs) = shareL (leftT n zs space gap) (ptL n zs) := by
  unfold shareA
  rw [if_pos]
  unfold shOk
  rw [decide_eq_true (leftT_bd hn h hs hg), Bool.true_and]
  exact rowB_iff.2 ⟨by rw [ptL_len]; omega, fun z hz => by have := ptL_mem h z hz; omega⟩
end
end Go.Proofs.Ytcoddhlfhmelkaa
