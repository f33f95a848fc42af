/-
  No cell of these rows narrows 'for every input' (looked for: loops, veiled, ifaces, maps, wideKeys, modest, calm, conditions, laid).
  DERIVED. THE GIVEN ROWS OF THIS SEAT. 3 by the template 'for every input the law returns true; each argument reads behind the call as it read before'; 0 by the template 'total and deterministic' (their statements: YtpkombjmbpgdnaaTotals.lean).
  GIVEN WITH THE SEED: the statements are not yours to turn. If you find one false, say at which input.
  Laid BY PROGRAM, IN A SANDBOX (cutbox-rows.mjs): the forced cells as the released guide's own fill.sh prints them over the translation 85dd91de9a3562db… (all of the seat's roots in one cut). By AI agents, Wed Nov 11 2026. No macro, syntax, notation, axiom, sorry.
-/
import Derived.Test.YtpkombjmbpgdnaaChecked
import GoSem.Claim
import GoSem.ClaimJoined
import GoSem.ClaimMapViews
import Derived.JoinedTies
import Derived.KernelRfl
namespace Go.Proofs.Ytpkombjmbpgdnaa
/- THE CELL 'sum', in the pinned program and in every row, IS THE sha256 OF THE DUMP (.gsa) THAT YtpkombjmbpgdnaaProg.lean LOADS. Nothing in Lean hashes anything: it is a label: what it is worth is what the hold of that sum in a sandbox is worth. -/
noncomputable def Try.pinned : Pinned := { name := "ytpkombjmbpgdnaa", sum := "85dd91de9a3562dbcb58938b926cb0bbee6095f5e0362eccc1311eb6b3e48570", checked := Try.checked }
namespace Rows
def none {H : Type} : Left H := { results := [], args := [] }

/-- 'laws.FnTaskOrder': WHATEVER THE INPUT: true; the input reads as it did. -/
def fnTaskOrderSpec : ChangeSpec := { name := "fnTaskOrder", fn := fun _ => fun
  | [d] => { results := [.lit (.bool true)], args := [d] }
  | _ => none }
def fnTaskOrderRow : OpenClaim := { program := "ytpkombjmbpgdnaa", sum := "85dd91de9a3562dbcb58938b926cb0bbee6095f5e0362eccc1311eb6b3e48570", func := "loop.example/flexlayout/laws.FnTaskOrder", spec := "fnTaskOrder", unfollowed := true, recurses := true, apart := false }
def FnTaskOrderSaid : Prop := fnTaskOrderRow.holds Try.pinned (OpenSpec.ofChange fnTaskOrderSpec)

/-- ITS FALSE NEIGHBOUR: 'it returns false'. Refute it at one input. -/
def fnTaskOrderWrong : ChangeSpec := { name := "fnTaskOrder", fn := fun _ => fun
  | [d] => { results := [.lit (.bool false)], args := [d] }
  | _ => none }
def FnTaskOrderWrongFalsely : Prop := fnTaskOrderRow.holds Try.pinned (OpenSpec.ofChange fnTaskOrderWrong)

/-- 'laws.FnTaskOrderStep': WHATEVER THE INPUT: true; the input reads as it did. -/
def fnTaskOrderStepSpec : ChangeSpec := { name := "fnTaskOrderStep", fn := fun _ => fun
  | [d] => { results := [.lit (.bool true)], args := [d] }
  | _ => none }
def fnTaskOrderStepRow : OpenClaim := { program := "ytpkombjmbpgdnaa", sum := "85dd91de9a3562dbcb58938b926cb0bbee6095f5e0362eccc1311eb6b3e48570", func := "loop.example/flexlayout/laws.FnTaskOrderStep", spec := "fnTaskOrderStep", unfollowed := true, recurses := true, apart := false }
def FnTaskOrderStepSaid : Prop := fnTaskOrderStepRow.holds Try.pinned (OpenSpec.ofChange fnTaskOrderStepSpec)

/-- ITS FALSE NEIGHBOUR: 'it returns false'. Refute it at one input. -/
def fnTaskOrderStepWrong : ChangeSpec := { name := "fnTaskOrderStep", fn := fun _ => fun
  | [d] => { results := [.lit (.bool false)], args := [d] }
  | _ => none }
def FnTaskOrderStepWrongFalsely : Prop := fnTaskOrderStepRow.holds Try.pinned (OpenSpec.ofChange fnTaskOrderStepWrong)

/-- 'laws.FnTaskOrderRank': WHATEVER THE INPUT: true; the input reads as it did. -/
def fnTaskOrderRankSpec : ChangeSpec := { name := "fnTaskOrderRank", fn := fun _ => fun
  | [d] => { results := [.lit (.bool true)], args := [d] }
  | _ => none }
def fnTaskOrderRankRow : OpenClaim := { program := "ytpkombjmbpgdnaa", sum := "85dd91de9a3562dbcb58938b926cb0bbee6095f5e0362eccc1311eb6b3e48570", func := "loop.example/flexlayout/laws.FnTaskOrderRank", spec := "fnTaskOrderRank", unfollowed := true, recurses := true, apart := false }
def FnTaskOrderRankSaid : Prop := fnTaskOrderRankRow.holds Try.pinned (OpenSpec.ofChange fnTaskOrderRankSpec)

/-- ITS FALSE NEIGHBOUR: 'it returns false'. Refute it at one input. -/
def fnTaskOrderRankWrong : ChangeSpec := { name := "fnTaskOrderRank", fn := fun _ => fun
  | [d] => { results := [.lit (.bool false)], args := [d] }
  | _ => none }
def FnTaskOrderRankWrongFalsely : Prop := fnTaskOrderRankRow.holds Try.pinned (OpenSpec.ofChange fnTaskOrderRankWrong)

/- THE SECOND FORM. 'bulk': how many values and letters a reading holds, each counted each time it is reached (what is shared counts as often as it is met; a slice's spare places count too). A statement '..UptoSaid' is the law's where the arguments, and the package variables that the reading takes, are together of bulk at most 1048576: NARROWER than '..Said'. Prove '..Said' where nothing that the law and all that it calls make is longer than what came in: it says more and counts as full. Else prove '..UptoSaid'. A law counts once. -/
mutual
def uptoBulk {H : Type} : DataW H → Nat
  | .lit (.string bytes) => bytes.length + 1
  | .lit _ => 1
  | .nil => 1
  | .ptr d => uptoBulk d + 1
  | .slice elems spare => uptoBulkAll elems + uptoBulkAll spare + 1
  | .agg parts => uptoBulkAll parts + 1
  | .iface _ d => uptoBulk d + 1
  | .map entries => uptoBulkEntries entries + 1
  | .held _ => 1
def uptoBulkAll {H : Type} : List (DataW H) → Nat
  | [] => 0
  | d :: r => uptoBulk d + uptoBulkAll r
def uptoBulkEntries {H : Type} : List (Lit × DataW H) → Nat
  | [] => 0
  | x :: r => uptoBulkEntry x + uptoBulkEntries r
def uptoBulkEntry {H : Type} : Lit × DataW H → Nat
  | (.string bytes, d) => bytes.length + uptoBulk d + 1
  | (_, d) => uptoBulk d + 1
 end
def uptoSmall : (H : Type) → List (DataW H) → Bool := fun _ ds => decide (uptoBulkAll ds ≤ 1048576)
def OpenSpec.upto (s : _root_.Go.ChangeSpec) : _root_.Go.OpenSpec := { _root_.Go.OpenSpec.ofChange s with cond := some uptoSmall }

/-- 'laws.FnTaskOrder', WHERE WHAT IT READS IS OF BULK AT MOST 1048576: true; the input reads as it did. -/
def fnTaskOrderUptoRow : OpenClaim := { program := "ytpkombjmbpgdnaa", sum := "85dd91de9a3562dbcb58938b926cb0bbee6095f5e0362eccc1311eb6b3e48570", func := "loop.example/flexlayout/laws.FnTaskOrder", spec := "fnTaskOrder", unfollowed := true, recurses := true, apart := false, narrowed := true }
def FnTaskOrderUptoSaid : Prop := fnTaskOrderUptoRow.holds Try.pinned (OpenSpec.upto fnTaskOrderSpec)

/-- 'laws.FnTaskOrderStep', WHERE WHAT IT READS IS OF BULK AT MOST 1048576: true; the input reads as it did. -/
def fnTaskOrderStepUptoRow : OpenClaim := { program := "ytpkombjmbpgdnaa", sum := "85dd91de9a3562dbcb58938b926cb0bbee6095f5e0362eccc1311eb6b3e48570", func := "loop.example/flexlayout/laws.FnTaskOrderStep", spec := "fnTaskOrderStep", unfollowed := true, recurses := true, apart := false, narrowed := true }
def FnTaskOrderStepUptoSaid : Prop := fnTaskOrderStepUptoRow.holds Try.pinned (OpenSpec.upto fnTaskOrderStepSpec)

/-- 'laws.FnTaskOrderRank', WHERE WHAT IT READS IS OF BULK AT MOST 1048576: true; the input reads as it did. -/
def fnTaskOrderRankUptoRow : OpenClaim := { program := "ytpkombjmbpgdnaa", sum := "85dd91de9a3562dbcb58938b926cb0bbee6095f5e0362eccc1311eb6b3e48570", func := "loop.example/flexlayout/laws.FnTaskOrderRank", spec := "fnTaskOrderRank", unfollowed := true, recurses := true, apart := false, narrowed := true }
def FnTaskOrderRankUptoSaid : Prop := fnTaskOrderRankUptoRow.holds Try.pinned (OpenSpec.upto fnTaskOrderRankSpec)

end Rows
end Go.Proofs.Ytpkombjmbpgdnaa
