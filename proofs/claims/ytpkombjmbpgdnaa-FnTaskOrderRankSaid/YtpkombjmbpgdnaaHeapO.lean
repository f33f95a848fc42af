/- The reference's TaskOrder: plain facts on the order. -/
import Derived.Test.YtpkombjmbpgdnaaHeapZ
namespace Go.Proofs.Ytpkombjmbpgdnaa
open Go.RowKit

/-- The ids in the order in which the tasks are taken. -/
def ordL : Nat → List Int → List Int
  | 0, _ => []
  | q + 1, zs => tid zs (nx zs q) :: ordL q (flL (stk zs (nx zs q) (q + 1)))
/-- The order of a queue. -/
def ordA (n : Nat) (zs : List Int) : List Int := if vtk n zs = true then ordL n zs else []
theorem ordL_len : ∀ (n : Nat) (zs : List Int), (ordL n zs).length = n
  | 0, _ => rfl
  | q + 1, zs => by show (ordL q _).length + 1 = q + 1; rw [ordL_len q]
theorem stay_ok {q : Nat} {zs : List Int} (h : vtk (q + 1) zs = true) : vtk q (flL (stk zs (nx zs q) (q + 1))) = true := by
  have hm : nx zs q < q + 1 := Nat.lt_succ_of_le (nx_le zs q)
  have e := stk_one (zs := zs) (m := nx zs q) (q + 1) hm
  have k := stk_ok h hm
  rw [show (stk zs (nx zs q) (q + 1)).length = q by omega] at k
  exact k
theorem ordA_no {n : Nat} {zs : List Int} (h : vtk n zs = false) : ordA n zs = [] := by unfold ordA; rw [h]; rfl
theorem ordA_yes {n : Nat} {zs : List Int} (h : vtk n zs = true) : ordA n zs = ordL n zs := if_pos h
end Go.Proofs.Ytpkombjmbpgdnaa
