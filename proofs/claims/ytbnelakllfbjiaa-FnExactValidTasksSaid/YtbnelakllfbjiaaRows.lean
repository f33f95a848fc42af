/-
  No cell of these rows narrows 'for every input' (looked for: loops, veiled, ifaces, maps, wideKeys, modest, calm, conditions, laid).
  DERIVED. THE GIVEN ROWS OF THIS SEAT. 12 by the template 'for every input the law returns true; each argument reads behind the call as it read before'; 0 by the template 'total and deterministic' (their statements: YtbnelakllfbjiaaTotals.lean).
  GIVEN WITH THE SEED: the statements are not yours to turn. If you find one false, say at which input.
  Laid BY PROGRAM, IN A SANDBOX (cutbox-rows.mjs): the forced cells as the released guide's own fill.sh prints them over the translation 3ac0f339be4f4bc6… (all of the seat's roots in one cut). By AI agents, Wed Nov 11 2026. No macro, syntax, notation, axiom, sorry.
-/
import Derived.Test.YtbnelakllfbjiaaChecked
import GoSem.Claim
import GoSem.ClaimJoined
import GoSem.ClaimMapViews
import Derived.JoinedTies
import Derived.KernelRfl
namespace Go.Proofs.Ytbnelakllfbjiaa
/- THE CELL 'sum', in the pinned program and in every row, IS THE sha256 OF THE DUMP (.gsa) THAT YtbnelakllfbjiaaProg.lean LOADS. Nothing in Lean hashes anything: it is a label: what it is worth is what the hold of that sum in a sandbox is worth. -/
noncomputable def Try.pinned : Pinned := { name := "ytbnelakllfbjiaa", sum := "3ac0f339be4f4bc6ee752c91763b170c78dc01966675416926f37910390fa87c", checked := Try.checked }
namespace Rows
def none {H : Type} : Left H := { results := [], args := [] }

/-- 'laws.FnDropBack': WHATEVER THE INPUT: true; the input reads as it did. -/
def fnDropBackSpec : ChangeSpec := { name := "fnDropBack", fn := fun _ => fun
  | [d] => { results := [.lit (.bool true)], args := [d] }
  | _ => none }
def fnDropBackRow : OpenClaim := { program := "ytbnelakllfbjiaa", sum := "3ac0f339be4f4bc6ee752c91763b170c78dc01966675416926f37910390fa87c", func := "loop.example/flexlayout/laws.FnDropBack", spec := "fnDropBack", apart := false }
def FnDropBackSaid : Prop := fnDropBackRow.holds Try.pinned (OpenSpec.ofChange fnDropBackSpec)

/-- ITS FALSE NEIGHBOUR: 'it returns false'. Refute it at one input. -/
def fnDropBackWrong : ChangeSpec := { name := "fnDropBack", fn := fun _ => fun
  | [d] => { results := [.lit (.bool false)], args := [d] }
  | _ => none }
def FnDropBackWrongFalsely : Prop := fnDropBackRow.holds Try.pinned (OpenSpec.ofChange fnDropBackWrong)

/-- 'laws.FnPendingCells': WHATEVER THE INPUT: true; the input reads as it did. -/
def fnPendingCellsSpec : ChangeSpec := { name := "fnPendingCells", fn := fun _ => fun
  | [d] => { results := [.lit (.bool true)], args := [d] }
  | _ => none }
def fnPendingCellsRow : OpenClaim := { program := "ytbnelakllfbjiaa", sum := "3ac0f339be4f4bc6ee752c91763b170c78dc01966675416926f37910390fa87c", func := "loop.example/flexlayout/laws.FnPendingCells", spec := "fnPendingCells", apart := false }
def FnPendingCellsSaid : Prop := fnPendingCellsRow.holds Try.pinned (OpenSpec.ofChange fnPendingCellsSpec)

/-- ITS FALSE NEIGHBOUR: 'it returns false'. Refute it at one input. -/
def fnPendingCellsWrong : ChangeSpec := { name := "fnPendingCells", fn := fun _ => fun
  | [d] => { results := [.lit (.bool false)], args := [d] }
  | _ => none }
def FnPendingCellsWrongFalsely : Prop := fnPendingCellsRow.holds Try.pinned (OpenSpec.ofChange fnPendingCellsWrong)

/-- 'laws.FnWriteCellPending': WHATEVER THE INPUT: true; the input reads as it did. -/
def fnWriteCellPendingSpec : ChangeSpec := { name := "fnWriteCellPending", fn := fun _ => fun
  | [d] => { results := [.lit (.bool true)], args := [d] }
  | _ => none }
def fnWriteCellPendingRow : OpenClaim := { program := "ytbnelakllfbjiaa", sum := "3ac0f339be4f4bc6ee752c91763b170c78dc01966675416926f37910390fa87c", func := "loop.example/flexlayout/laws.FnWriteCellPending", spec := "fnWriteCellPending", apart := false }
def FnWriteCellPendingSaid : Prop := fnWriteCellPendingRow.holds Try.pinned (OpenSpec.ofChange fnWriteCellPendingSpec)

/-- ITS FALSE NEIGHBOUR: 'it returns false'. Refute it at one input. -/
def fnWriteCellPendingWrong : ChangeSpec := { name := "fnWriteCellPending", fn := fun _ => fun
  | [d] => { results := [.lit (.bool false)], args := [d] }
  | _ => none }
def FnWriteCellPendingWrongFalsely : Prop := fnWriteCellPendingRow.holds Try.pinned (OpenSpec.ofChange fnWriteCellPendingWrong)

/-- 'laws.FnSwapBuffersRead': WHATEVER THE INPUT: true; the input reads as it did. -/
def fnSwapBuffersReadSpec : ChangeSpec := { name := "fnSwapBuffersRead", fn := fun _ => fun
  | [d] => { results := [.lit (.bool true)], args := [d] }
  | _ => none }
def fnSwapBuffersReadRow : OpenClaim := { program := "ytbnelakllfbjiaa", sum := "3ac0f339be4f4bc6ee752c91763b170c78dc01966675416926f37910390fa87c", func := "loop.example/flexlayout/laws.FnSwapBuffersRead", spec := "fnSwapBuffersRead", apart := false }
def FnSwapBuffersReadSaid : Prop := fnSwapBuffersReadRow.holds Try.pinned (OpenSpec.ofChange fnSwapBuffersReadSpec)

/-- ITS FALSE NEIGHBOUR: 'it returns false'. Refute it at one input. -/
def fnSwapBuffersReadWrong : ChangeSpec := { name := "fnSwapBuffersRead", fn := fun _ => fun
  | [d] => { results := [.lit (.bool false)], args := [d] }
  | _ => none }
def FnSwapBuffersReadWrongFalsely : Prop := fnSwapBuffersReadRow.holds Try.pinned (OpenSpec.ofChange fnSwapBuffersReadWrong)

/-- 'laws.FnDropBackSwap': WHATEVER THE INPUT: true; the input reads as it did. -/
def fnDropBackSwapSpec : ChangeSpec := { name := "fnDropBackSwap", fn := fun _ => fun
  | [d] => { results := [.lit (.bool true)], args := [d] }
  | _ => none }
def fnDropBackSwapRow : OpenClaim := { program := "ytbnelakllfbjiaa", sum := "3ac0f339be4f4bc6ee752c91763b170c78dc01966675416926f37910390fa87c", func := "loop.example/flexlayout/laws.FnDropBackSwap", spec := "fnDropBackSwap", apart := false }
def FnDropBackSwapSaid : Prop := fnDropBackSwapRow.holds Try.pinned (OpenSpec.ofChange fnDropBackSwapSpec)

/-- ITS FALSE NEIGHBOUR: 'it returns false'. Refute it at one input. -/
def fnDropBackSwapWrong : ChangeSpec := { name := "fnDropBackSwap", fn := fun _ => fun
  | [d] => { results := [.lit (.bool false)], args := [d] }
  | _ => none }
def FnDropBackSwapWrongFalsely : Prop := fnDropBackSwapRow.holds Try.pinned (OpenSpec.ofChange fnDropBackSwapWrong)

/-- 'laws.FnExactValidTasks': WHATEVER THE INPUT: true; the input reads as it did. -/
def fnExactValidTasksSpec : ChangeSpec := { name := "fnExactValidTasks", fn := fun _ => fun
  | [d] => { results := [.lit (.bool true)], args := [d] }
  | _ => none }
def fnExactValidTasksRow : OpenClaim := { program := "ytbnelakllfbjiaa", sum := "3ac0f339be4f4bc6ee752c91763b170c78dc01966675416926f37910390fa87c", func := "loop.example/flexlayout/laws.FnExactValidTasks", spec := "fnExactValidTasks", apart := false }
def FnExactValidTasksSaid : Prop := fnExactValidTasksRow.holds Try.pinned (OpenSpec.ofChange fnExactValidTasksSpec)

/-- ITS FALSE NEIGHBOUR: 'it returns false'. Refute it at one input. -/
def fnExactValidTasksWrong : ChangeSpec := { name := "fnExactValidTasks", fn := fun _ => fun
  | [d] => { results := [.lit (.bool false)], args := [d] }
  | _ => none }
def FnExactValidTasksWrongFalsely : Prop := fnExactValidTasksRow.holds Try.pinned (OpenSpec.ofChange fnExactValidTasksWrong)

/-- 'laws.FnValidTasks': WHATEVER THE INPUT: true; the input reads as it did. -/
def fnValidTasksSpec : ChangeSpec := { name := "fnValidTasks", fn := fun _ => fun
  | [d] => { results := [.lit (.bool true)], args := [d] }
  | _ => none }
def fnValidTasksRow : OpenClaim := { program := "ytbnelakllfbjiaa", sum := "3ac0f339be4f4bc6ee752c91763b170c78dc01966675416926f37910390fa87c", func := "loop.example/flexlayout/laws.FnValidTasks", spec := "fnValidTasks", apart := false }
def FnValidTasksSaid : Prop := fnValidTasksRow.holds Try.pinned (OpenSpec.ofChange fnValidTasksSpec)

/-- ITS FALSE NEIGHBOUR: 'it returns false'. Refute it at one input. -/
def fnValidTasksWrong : ChangeSpec := { name := "fnValidTasks", fn := fun _ => fun
  | [d] => { results := [.lit (.bool false)], args := [d] }
  | _ => none }
def FnValidTasksWrongFalsely : Prop := fnValidTasksRow.holds Try.pinned (OpenSpec.ofChange fnValidTasksWrong)

/-- 'laws.FnExactPushTask': WHATEVER THE INPUT: true; the input reads as it did. -/
def fnExactPushTaskSpec : ChangeSpec := { name := "fnExactPushTask", fn := fun _ => fun
  | [d1, d2, d3] => { results := [.lit (.bool true)], args := [d1, d2, d3] }
  | _ => none }
def fnExactPushTaskRow : OpenClaim := { program := "ytbnelakllfbjiaa", sum := "3ac0f339be4f4bc6ee752c91763b170c78dc01966675416926f37910390fa87c", func := "loop.example/flexlayout/laws.FnExactPushTask", spec := "fnExactPushTask", inPlace := ["slices.overlaps[loop.example/flexlayout/impl.Task]"], unfollowed := true, recurses := true, apart := false }
def FnExactPushTaskSaid : Prop := fnExactPushTaskRow.holds Try.pinned (OpenSpec.ofChange fnExactPushTaskSpec)

/-- ITS FALSE NEIGHBOUR: 'it returns false'. Refute it at one input. -/
def fnExactPushTaskWrong : ChangeSpec := { name := "fnExactPushTask", fn := fun _ => fun
  | [d1, d2, d3] => { results := [.lit (.bool false)], args := [d1, d2, d3] }
  | _ => none }
def FnExactPushTaskWrongFalsely : Prop := fnExactPushTaskRow.holds Try.pinned (OpenSpec.ofChange fnExactPushTaskWrong)

/-- 'laws.FnPushTask': WHATEVER THE INPUT: true; the input reads as it did. -/
def fnPushTaskSpec : ChangeSpec := { name := "fnPushTask", fn := fun _ => fun
  | [d] => { results := [.lit (.bool true)], args := [d] }
  | _ => none }
def fnPushTaskRow : OpenClaim := { program := "ytbnelakllfbjiaa", sum := "3ac0f339be4f4bc6ee752c91763b170c78dc01966675416926f37910390fa87c", func := "loop.example/flexlayout/laws.FnPushTask", spec := "fnPushTask", inPlace := ["slices.overlaps[loop.example/flexlayout/impl.Task]"], unfollowed := true, recurses := true, apart := false }
def FnPushTaskSaid : Prop := fnPushTaskRow.holds Try.pinned (OpenSpec.ofChange fnPushTaskSpec)

/-- ITS FALSE NEIGHBOUR: 'it returns false'. Refute it at one input. -/
def fnPushTaskWrong : ChangeSpec := { name := "fnPushTask", fn := fun _ => fun
  | [d] => { results := [.lit (.bool false)], args := [d] }
  | _ => none }
def FnPushTaskWrongFalsely : Prop := fnPushTaskRow.holds Try.pinned (OpenSpec.ofChange fnPushTaskWrong)

/-- 'laws.FnPushTaskTwice': WHATEVER THE INPUT: true; the input reads as it did. -/
def fnPushTaskTwiceSpec : ChangeSpec := { name := "fnPushTaskTwice", fn := fun _ => fun
  | [d] => { results := [.lit (.bool true)], args := [d] }
  | _ => none }
def fnPushTaskTwiceRow : OpenClaim := { program := "ytbnelakllfbjiaa", sum := "3ac0f339be4f4bc6ee752c91763b170c78dc01966675416926f37910390fa87c", func := "loop.example/flexlayout/laws.FnPushTaskTwice", spec := "fnPushTaskTwice", inPlace := ["slices.overlaps[loop.example/flexlayout/impl.Task]"], unfollowed := true, recurses := true, apart := false }
def FnPushTaskTwiceSaid : Prop := fnPushTaskTwiceRow.holds Try.pinned (OpenSpec.ofChange fnPushTaskTwiceSpec)

/-- ITS FALSE NEIGHBOUR: 'it returns false'. Refute it at one input. -/
def fnPushTaskTwiceWrong : ChangeSpec := { name := "fnPushTaskTwice", fn := fun _ => fun
  | [d] => { results := [.lit (.bool false)], args := [d] }
  | _ => none }
def FnPushTaskTwiceWrongFalsely : Prop := fnPushTaskTwiceRow.holds Try.pinned (OpenSpec.ofChange fnPushTaskTwiceWrong)

/-- 'laws.FnPushTaskOrder': WHATEVER THE INPUT: true; the input reads as it did. -/
def fnPushTaskOrderSpec : ChangeSpec := { name := "fnPushTaskOrder", fn := fun _ => fun
  | [d] => { results := [.lit (.bool true)], args := [d] }
  | _ => none }
def fnPushTaskOrderRow : OpenClaim := { program := "ytbnelakllfbjiaa", sum := "3ac0f339be4f4bc6ee752c91763b170c78dc01966675416926f37910390fa87c", func := "loop.example/flexlayout/laws.FnPushTaskOrder", spec := "fnPushTaskOrder", inPlace := ["slices.overlaps[loop.example/flexlayout/impl.Task]"], unfollowed := true, recurses := true, apart := false }
def FnPushTaskOrderSaid : Prop := fnPushTaskOrderRow.holds Try.pinned (OpenSpec.ofChange fnPushTaskOrderSpec)

/-- ITS FALSE NEIGHBOUR: 'it returns false'. Refute it at one input. -/
def fnPushTaskOrderWrong : ChangeSpec := { name := "fnPushTaskOrder", fn := fun _ => fun
  | [d] => { results := [.lit (.bool false)], args := [d] }
  | _ => none }
def FnPushTaskOrderWrongFalsely : Prop := fnPushTaskOrderRow.holds Try.pinned (OpenSpec.ofChange fnPushTaskOrderWrong)

/-- 'laws.FnExactNextTask': WHATEVER THE INPUT: true; the input reads as it did. -/
def fnExactNextTaskSpec : ChangeSpec := { name := "fnExactNextTask", fn := fun _ => fun
  | [d] => { results := [.lit (.bool true)], args := [d] }
  | _ => none }
def fnExactNextTaskRow : OpenClaim := { program := "ytbnelakllfbjiaa", sum := "3ac0f339be4f4bc6ee752c91763b170c78dc01966675416926f37910390fa87c", func := "loop.example/flexlayout/laws.FnExactNextTask", spec := "fnExactNextTask", unfollowed := true, recurses := true, apart := false }
def FnExactNextTaskSaid : Prop := fnExactNextTaskRow.holds Try.pinned (OpenSpec.ofChange fnExactNextTaskSpec)

/-- ITS FALSE NEIGHBOUR: 'it returns false'. Refute it at one input. -/
def fnExactNextTaskWrong : ChangeSpec := { name := "fnExactNextTask", fn := fun _ => fun
  | [d] => { results := [.lit (.bool false)], args := [d] }
  | _ => none }
def FnExactNextTaskWrongFalsely : Prop := fnExactNextTaskRow.holds Try.pinned (OpenSpec.ofChange fnExactNextTaskWrong)

/- THE SECOND FORM. 'bulk': how many values and letters a reading holds, each counted each time it is reached (what is shared counts as often as it is met; a slice's spare places count too). A statement '..UptoSaid' is the law's where the arguments, and the package variables that the reading takes, are together of bulk at most 1048576: NARROWER than '..Said'. Prove '..Said' where nothing that the law and all that it calls make is longer than what came in: it says more and counts as full. Else prove '..UptoSaid'. A law counts once. -/
mutual
def uptoBulk {H : Type} : DataW H → Nat
  | .lit (.string bytes) => bytes.length + 1
  | .lit _ => 1
  | .nil => 1
  | .ptr d => uptoBulk d + 1
  | .slice elems spare => uptoBulkAll elems + uptoBulkAll spare + 1
  | .agg parts => uptoBulkAll parts + 1
  | .iface _ d => uptoBulk d + 1
  | .map entries => uptoBulkEntries entries + 1
  | .held _ => 1
def uptoBulkAll {H : Type} : List (DataW H) → Nat
  | [] => 0
  | d :: r => uptoBulk d + uptoBulkAll r
def uptoBulkEntries {H : Type} : List (Lit × DataW H) → Nat
  | [] => 0
  | x :: r => uptoBulkEntry x + uptoBulkEntries r
def uptoBulkEntry {H : Type} : Lit × DataW H → Nat
  | (.string bytes, d) => bytes.length + uptoBulk d + 1
  | (_, d) => uptoBulk d + 1
 end
def uptoSmall : (H : Type) → List (DataW H) → Bool := fun _ ds => decide (uptoBulkAll ds ≤ 1048576)
def OpenSpec.upto (s : _root_.Go.ChangeSpec) : _root_.Go.OpenSpec := { _root_.Go.OpenSpec.ofChange s with cond := some uptoSmall }

/-- 'laws.FnDropBack', WHERE WHAT IT READS IS OF BULK AT MOST 1048576: true; the input reads as it did. -/
def fnDropBackUptoRow : OpenClaim := { program := "ytbnelakllfbjiaa", sum := "3ac0f339be4f4bc6ee752c91763b170c78dc01966675416926f37910390fa87c", func := "loop.example/flexlayout/laws.FnDropBack", spec := "fnDropBack", apart := false, narrowed := true }
def FnDropBackUptoSaid : Prop := fnDropBackUptoRow.holds Try.pinned (OpenSpec.upto fnDropBackSpec)

/-- 'laws.FnPendingCells', WHERE WHAT IT READS IS OF BULK AT MOST 1048576: true; the input reads as it did. -/
def fnPendingCellsUptoRow : OpenClaim := { program := "ytbnelakllfbjiaa", sum := "3ac0f339be4f4bc6ee752c91763b170c78dc01966675416926f37910390fa87c", func := "loop.example/flexlayout/laws.FnPendingCells", spec := "fnPendingCells", apart := false, narrowed := true }
def FnPendingCellsUptoSaid : Prop := fnPendingCellsUptoRow.holds Try.pinned (OpenSpec.upto fnPendingCellsSpec)

/-- 'laws.FnWriteCellPending', WHERE WHAT IT READS IS OF BULK AT MOST 1048576: true; the input reads as it did. -/
def fnWriteCellPendingUptoRow : OpenClaim := { program := "ytbnelakllfbjiaa", sum := "3ac0f339be4f4bc6ee752c91763b170c78dc01966675416926f37910390fa87c", func := "loop.example/flexlayout/laws.FnWriteCellPending", spec := "fnWriteCellPending", apart := false, narrowed := true }
def FnWriteCellPendingUptoSaid : Prop := fnWriteCellPendingUptoRow.holds Try.pinned (OpenSpec.upto fnWriteCellPendingSpec)

/-- 'laws.FnSwapBuffersRead', WHERE WHAT IT READS IS OF BULK AT MOST 1048576: true; the input reads as it did. -/
def fnSwapBuffersReadUptoRow : OpenClaim := { program := "ytbnelakllfbjiaa", sum := "3ac0f339be4f4bc6ee752c91763b170c78dc01966675416926f37910390fa87c", func := "loop.example/flexlayout/laws.FnSwapBuffersRead", spec := "fnSwapBuffersRead", apart := false, narrowed := true }
def FnSwapBuffersReadUptoSaid : Prop := fnSwapBuffersReadUptoRow.holds Try.pinned (OpenSpec.upto fnSwapBuffersReadSpec)

/-- 'laws.FnDropBackSwap', WHERE WHAT IT READS IS OF BULK AT MOST 1048576: true; the input reads as it did. -/
def fnDropBackSwapUptoRow : OpenClaim := { program := "ytbnelakllfbjiaa", sum := "3ac0f339be4f4bc6ee752c91763b170c78dc01966675416926f37910390fa87c", func := "loop.example/flexlayout/laws.FnDropBackSwap", spec := "fnDropBackSwap", apart := false, narrowed := true }
def FnDropBackSwapUptoSaid : Prop := fnDropBackSwapUptoRow.holds Try.pinned (OpenSpec.upto fnDropBackSwapSpec)

/-- 'laws.FnExactValidTasks', WHERE WHAT IT READS IS OF BULK AT MOST 1048576: true; the input reads as it did. -/
def fnExactValidTasksUptoRow : OpenClaim := { program := "ytbnelakllfbjiaa", sum := "3ac0f339be4f4bc6ee752c91763b170c78dc01966675416926f37910390fa87c", func := "loop.example/flexlayout/laws.FnExactValidTasks", spec := "fnExactValidTasks", apart := false, narrowed := true }
def FnExactValidTasksUptoSaid : Prop := fnExactValidTasksUptoRow.holds Try.pinned (OpenSpec.upto fnExactValidTasksSpec)

/-- 'laws.FnValidTasks', WHERE WHAT IT READS IS OF BULK AT MOST 1048576: true; the input reads as it did. -/
def fnValidTasksUptoRow : OpenClaim := { program := "ytbnelakllfbjiaa", sum := "3ac0f339be4f4bc6ee752c91763b170c78dc01966675416926f37910390fa87c", func := "loop.example/flexlayout/laws.FnValidTasks", spec := "fnValidTasks", apart := false, narrowed := true }
def FnValidTasksUptoSaid : Prop := fnValidTasksUptoRow.holds Try.pinned (OpenSpec.upto fnValidTasksSpec)

/-- 'laws.FnExactPushTask', WHERE WHAT IT READS IS OF BULK AT MOST 1048576: true; the input reads as it did. -/
def fnExactPushTaskUptoRow : OpenClaim := { program := "ytbnelakllfbjiaa", sum := "3ac0f339be4f4bc6ee752c91763b170c78dc01966675416926f37910390fa87c", func := "loop.example/flexlayout/laws.FnExactPushTask", spec := "fnExactPushTask", inPlace := ["slices.overlaps[loop.example/flexlayout/impl.Task]"], unfollowed := true, recurses := true, apart := false, narrowed := true }
def FnExactPushTaskUptoSaid : Prop := fnExactPushTaskUptoRow.holds Try.pinned (OpenSpec.upto fnExactPushTaskSpec)

/-- 'laws.FnPushTask', WHERE WHAT IT READS IS OF BULK AT MOST 1048576: true; the input reads as it did. -/
def fnPushTaskUptoRow : OpenClaim := { program := "ytbnelakllfbjiaa", sum := "3ac0f339be4f4bc6ee752c91763b170c78dc01966675416926f37910390fa87c", func := "loop.example/flexlayout/laws.FnPushTask", spec := "fnPushTask", inPlace := ["slices.overlaps[loop.example/flexlayout/impl.Task]"], unfollowed := true, recurses := true, apart := false, narrowed := true }
def FnPushTaskUptoSaid : Prop := fnPushTaskUptoRow.holds Try.pinned (OpenSpec.upto fnPushTaskSpec)

/-- 'laws.FnPushTaskTwice', WHERE WHAT IT READS IS OF BULK AT MOST 1048576: true; the input reads as it did. -/
def fnPushTaskTwiceUptoRow : OpenClaim := { program := "ytbnelakllfbjiaa", sum := "3ac0f339be4f4bc6ee752c91763b170c78dc01966675416926f37910390fa87c", func := "loop.example/flexlayout/laws.FnPushTaskTwice", spec := "fnPushTaskTwice", inPlace := ["slices.overlaps[loop.example/flexlayout/impl.Task]"], unfollowed := true, recurses := true, apart := false, narrowed := true }
def FnPushTaskTwiceUptoSaid : Prop := fnPushTaskTwiceUptoRow.holds Try.pinned (OpenSpec.upto fnPushTaskTwiceSpec)

/-- 'laws.FnPushTaskOrder', WHERE WHAT IT READS IS OF BULK AT MOST 1048576: true; the input reads as it did. -/
def fnPushTaskOrderUptoRow : OpenClaim := { program := "ytbnelakllfbjiaa", sum := "3ac0f339be4f4bc6ee752c91763b170c78dc01966675416926f37910390fa87c", func := "loop.example/flexlayout/laws.FnPushTaskOrder", spec := "fnPushTaskOrder", inPlace := ["slices.overlaps[loop.example/flexlayout/impl.Task]"], unfollowed := true, recurses := true, apart := false, narrowed := true }
def FnPushTaskOrderUptoSaid : Prop := fnPushTaskOrderUptoRow.holds Try.pinned (OpenSpec.upto fnPushTaskOrderSpec)

/-- 'laws.FnExactNextTask', WHERE WHAT IT READS IS OF BULK AT MOST 1048576: true; the input reads as it did. -/
def fnExactNextTaskUptoRow : OpenClaim := { program := "ytbnelakllfbjiaa", sum := "3ac0f339be4f4bc6ee752c91763b170c78dc01966675416926f37910390fa87c", func := "loop.example/flexlayout/laws.FnExactNextTask", spec := "fnExactNextTask", unfollowed := true, recurses := true, apart := false, narrowed := true }
def FnExactNextTaskUptoSaid : Prop := fnExactNextTaskUptoRow.holds Try.pinned (OpenSpec.upto fnExactNextTaskSpec)

end Rows
end Go.Proofs.Ytbnelakllfbjiaa
