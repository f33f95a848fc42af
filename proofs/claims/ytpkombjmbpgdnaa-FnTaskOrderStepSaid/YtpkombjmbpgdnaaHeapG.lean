/- The program's TaskOrder, with its room. Condition: the list can be read. -/
import Derived.Test.YtpkombjmbpgdnaaHeapE
namespace Go.Proofs.Ytpkombjmbpgdnaa
open Go.RowKit

/-- An answer that is a row of its own, in its room. -/
def AnsR1 (w : World) (zs : List Int) (e : Ending) (w' : World) : Prop :=
  ∃ (A : Option Addr) (n c : Nat), e = .returned (.slice A n c) ∧ zs.length = n ∧ n ≤ c ∧ Res w.heap.size w'.heap.size w' A zs ∧ New w w'
theorem TaskOrder_ansR (A : Option Addr) (n c : Nat) (zs : List Int) (hn : n ≤ 1048576) (w : World) (hx : Sts 3 w A n zs) :
    Calls Try.prog 7 #[.slice A n c] w (AnsR1 w (ordA n zs)) := by
  cases hv : vtk n zs
  · refine (TaskOrder_ans A n c zs hn w hx).mono ?_
    rintro e w' ⟨B, m, d, rfl, l, R, N⟩
    rw [ordA_no hv] at l R ⊢
    obtain rfl : 0 = m := by simpa using l
    exact ⟨B, 0, d, rfl, rfl, Nat.zero_le _, R, N⟩
  · refine (TaskOrder_own A n c zs hn w hx hv).mono ?_
    rintro e w' ⟨v, rfl, O, N⟩
    rw [ordA_yes hv]
    obtain ⟨B, d, rfl, hc, R⟩ := O.res
    exact ⟨B, _, d, rfl, rfl, hc, R, N⟩
end Go.Proofs.Ytpkombjmbpgdnaa
