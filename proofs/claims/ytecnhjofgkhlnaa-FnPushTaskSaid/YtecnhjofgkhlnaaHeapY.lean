/- The reference's TakeTask: what stays, and whether a task was taken. Condition: the list is short. -/
import Derived.Test.YtecnhjofgkhlnaaHeapX
import Derived.Test.YtecnhjofgkhlnaaAnsT
namespace Go.Proofs.Ytecnhjofgkhlnaa
open Go.RowKit

/-- A task can be taken. -/
def tkOk (n : Nat) (zs : List Int) : Bool := vtk n zs && decide (0 < n)
/-- What stays where a task is taken. -/
def tkA (n : Nat) (zs : List Int) : List Int := if tkOk n zs = true then flL (stk zs (nx zs (n - 1)) n) else []
set_option maxHeartbeats 4000000 in
theorem STakeTask_ansT (A : Option Addr) (n c : Nat) (zs : List Int) (hn : n ≤ 1048576) (w : World) (hx : Sts 3 w A n zs) :
    Calls Try.prog 20 #[.slice A n c] w (AnsT 3 w (tkOk n zs) (tkA n zs)) := by
  have HX := Lib.hid hx
  have nl : (n : Int) ≤ 1048576 := by omega
  have nl0 : (0 : Int) ≤ (n : Int) := by omega
  cases hv : vtk n zs
  · have EO : Hid (tkOk n zs = false) := Lib.hid (by unfold tkOk; rw [hv]; rfl)
    have EA : Hid (tkA n zs = []) := Lib.hid (by unfold tkA; rw [EO.out]; rfl)
    have HV := Lib.hid hv
    clear hv hx
    go_enter Try.func20, Try.ntmps20
    go_wp2_with fail
    refine (SvalidTasks_any A n c zs hn _ HX.out).mono ?_
    rw [HV.out]
    rintro e w1 ⟨rfl, N1⟩
    have N1 := Lib.hid N1
    go_wp2
    go_ret2
    rw [EO.out, EA.out]
    exact AnsT.no rfl N1.out
  · have HV := Lib.hid hv
    rcases Nat.eq_zero_or_pos n with h0 | h0
    · subst h0
      have EO : Hid (tkOk 0 zs = false) := Lib.hid (by unfold tkOk; rw [hv]; rfl)
      have EA : Hid (tkA 0 zs = []) := Lib.hid (by unfold tkA; rw [EO.out]; rfl)
      clear hv hx
      go_enter Try.func20, Try.ntmps20
      go_wp2_with fail
      refine (SvalidTasks_any A 0 c zs hn _ HX.out).mono ?_
      rw [HV.out]
      rintro e w1 ⟨rfl, N1⟩
      have N1 := Lib.hid N1
      go_wp2
      go_ret2
      rw [EO.out, EA.out]
      exact AnsT.no rfl N1.out
    · have EO : Hid (tkOk n zs = true) := Lib.hid (by unfold tkOk; rw [hv, decide_eq_true h0]; rfl)
      have EA : Hid (tkA n zs = flL (stk zs (nx zs (n - 1)) n)) := Lib.hid (if_pos EO.out)
      have nb : ((n : Int) == 0) = false := by simp; omega
      have NA := Lib.hid (fun X (hX : New w X) => stake_any A n c zs hv h0 X (hx.new hX))
      clear hv hx
      go_enter Try.func20, Try.ntmps20
      go_wp2_with fail
      refine (SvalidTasks_any A n c zs hn _ HX.out).mono ?_
      rw [HV.out]
      rintro e w1 ⟨rfl, N1⟩
      have N1 := Lib.hid N1
      go_wp2_with fail
      refine (NA.out _ N1.out).mono ?_
      rintro e w2 ⟨v, rfl, O2, N2⟩
      have N3 := Lib.hid (N1.out.trans N2)
      have L2 := O2.2
      have LE := N1.out.le
      obtain ⟨B, d, rfl, _, R⟩ := O2.res
      have R := Lib.hid R; have L2 := Lib.hid L2; have LE := Lib.hid LE
      clear N2 O2
      go_wp2
      go_ret2
      rw [EO.out, EA.out]
      exact ⟨B, _, d, rfl, L2.out, ⟨Nat.le_refl _, fun hz => by obtain ⟨g, e, k1, k2, hR⟩ := R.out.2 hz; exact ⟨g, e, Nat.le_trans LE.out k1, k2, hR⟩⟩, N3.out⟩
end Go.Proofs.Ytecnhjofgkhlnaa
