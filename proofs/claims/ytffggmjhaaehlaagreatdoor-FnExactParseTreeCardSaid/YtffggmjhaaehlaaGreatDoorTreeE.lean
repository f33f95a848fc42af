/- ValidTree, KidsOf, DepthOf, IsAround, CountIn of the program and of the reference, walked: both answer as the plain functions do. Condition: the tree can be read. -/
import Derived.Test.YtffggmjhaaehlaaGreatDoorTreeC
import Derived.Test.YtffggmjhaaehlaaGreatDoorTreeT
namespace Go.Proofs.YtffggmjhaaehlaaGreatDoor
open Go.RowKit

theorem run_neq_slice_nil {P : Program} (w : World) (t e : TypeId) (a : Option Addr) (n c n' c' : Nat) (h : P.underlying t = some (.slice e)) :
    (binOp .neq t (.slice a n c) (.slice none n' c')).run P w = .ok (.bool (!a.isNone)) w := by
  simp only [binOp]
  simp [Op.equal, Op.maxDepth, Go.Lib.run_equalIn_slice_nil w 9999 t e a n c n' c' h]
def kidsA (n : Nat) (zs : List Int) (at_ : Int) : List Int := if nodeOk n zs at_ = true then (kidL zs n at_.toNat).map Int.ofNat else []
def depA (n : Nat) (zs : List Int) (at_ : Int) : Int := if nodeOk n zs at_ = true then (dep zs at_.toNat : Int) else -1
def cntA (n : Nat) (zs : List Int) (at_ : Int) : Int := if nodeOk n zs at_ = true then (en zs n at_.toNat : Int) - at_ else -1
def arA (n : Nat) (zs : List Int) (at_ inner : Int) : Bool := nodeOk n zs at_ && nodeOk n zs inner && anc zs at_.toNat inner.toNat
theorem kidsA_len (n : Nat) (zs : List Int) (at_ : Int) : (kidsA n zs at_).length ≤ 16 := by
  unfold kidsA
  split
  · next h =>
    obtain ⟨h1, i, rfl, hi⟩ := nodeOk_iff.1 h
    rw [List.length_map]
    have h2 := (vtB_iff.1 h1).1
    have : (kidL zs n (i : Int).toNat).length ≤ n := by unfold kidL; have := List.length_filter_le (fun j => decide (par zs j = (((i : Int).toNat : Nat) : Int))) (List.range n); simpa using this
    omega
  · simp
theorem Ans.own {w w' : World} {v : Value} {zs : List Int} {e : Ending} (he : e = .returned v) (h : Own w.heap.size w' v zs) (hN : New w w') : Ans w zs e w' := by
  obtain ⟨A, c, rfl, _, hR⟩ := h.res
  exact ⟨A, zs.length, c, he, rfl, hR, hN⟩
set_option maxHeartbeats 1000000 in
theorem ValidTree_any (A : Option Addr) (n c : Nat) (zs : List Int) (hn : n ≤ 1048576) (w : World) (hx : Sts 9 w A n zs) :
    Calls Tryz.prog 16 #[.slice A n c] w fun e w' => e = .returned (.bool (vtB n zs)) ∧ New w w' := by
  have HX := Lib.hid hx
  clear hx
  have hnil := fun (W : World) (a : Option Addr) (n c : Nat) => run_neq_slice_nil (P := Tryz.prog) W 51 53 a n c 0 0 Tryz.underlying51
  go_enter Tryz.func16, Tryz.ntmps16
  go_wp2_with fail
  refine (linkTree_any A n c zs hn _ HX.out).mono ?_
  rintro e w1 ⟨N1, ⟨hv, rfl⟩ | ⟨hv, g, nb, ar, fi, la, ne, rfl, hg, _, _⟩⟩
  all_goals
    have N1' := Lib.hid N1
    have HV := Lib.hid hv
    clear N1 hv
    go_wp2
    go_ret
    exact ⟨by rw [HV.out]; rfl, N1'.out⟩
end Go.Proofs.YtffggmjhaaehlaaGreatDoor
