/-
  No cell of these rows narrows 'for every input' (looked for: loops, veiled, ifaces, maps, wideKeys, modest, calm, conditions, laid).
  DERIVED. THE GIVEN ROWS OF THIS SEAT. 12 by the template 'for every input the law returns true; each argument reads behind the call as it read before'; 0 by the template 'total and deterministic' (their statements: YtopnegbaieflpaaTotals.lean).
  GIVEN WITH THE SEED: the statements are not yours to turn. If you find one false, say at which input.
  Laid BY PROGRAM, IN A SANDBOX (cutbox-rows.mjs): the forced cells as the released guide's own fill.sh prints them over the translation 0d201d38964e86e7… (all of the seat's roots in one cut). By AI agents, Wed Nov 11 2026. No macro, syntax, notation, axiom, sorry.
-/
import Derived.Test.YtopnegbaieflpaaChecked
import GoSem.Claim
import GoSem.ClaimJoined
import GoSem.ClaimMapViews
import Derived.JoinedTies
import Derived.KernelRfl
namespace Go.Proofs.Ytopnegbaieflpaa
/- THE CELL 'sum', in the pinned program and in every row, IS THE sha256 OF THE DUMP (.gsa) THAT YtopnegbaieflpaaProg.lean LOADS. Nothing in Lean hashes anything: it is a label: what it is worth is what the hold of that sum in a sandbox is worth. -/
noncomputable def Try.pinned : Pinned := { name := "ytopnegbaieflpaa", sum := "0d201d38964e86e7de945a9545528a098abcc09cb3416c7e77fe07b48f4e1bbf", checked := Try.checked }
namespace Rows
def none {H : Type} : Left H := { results := [], args := [] }

/-- 'laws.FnExactValidBuffers': WHATEVER THE INPUT: true; the input reads as it did. -/
def fnExactValidBuffersSpec : ChangeSpec := { name := "fnExactValidBuffers", fn := fun _ => fun
  | [d] => { results := [.lit (.bool true)], args := [d] }
  | _ => none }
def fnExactValidBuffersRow : OpenClaim := { program := "ytopnegbaieflpaa", sum := "0d201d38964e86e7de945a9545528a098abcc09cb3416c7e77fe07b48f4e1bbf", func := "loop.example/flexlayout/laws.FnExactValidBuffers", spec := "fnExactValidBuffers", apart := false }
def FnExactValidBuffersSaid : Prop := fnExactValidBuffersRow.holds Try.pinned (OpenSpec.ofChange fnExactValidBuffersSpec)

/-- ITS FALSE NEIGHBOUR: 'it returns false'. Refute it at one input. -/
def fnExactValidBuffersWrong : ChangeSpec := { name := "fnExactValidBuffers", fn := fun _ => fun
  | [d] => { results := [.lit (.bool false)], args := [d] }
  | _ => none }
def FnExactValidBuffersWrongFalsely : Prop := fnExactValidBuffersRow.holds Try.pinned (OpenSpec.ofChange fnExactValidBuffersWrong)

/-- 'laws.FnExactReadCell': WHATEVER THE INPUT: true; the input reads as it did. -/
def fnExactReadCellSpec : ChangeSpec := { name := "fnExactReadCell", fn := fun _ => fun
  | [d1, d2] => { results := [.lit (.bool true)], args := [d1, d2] }
  | _ => none }
def fnExactReadCellRow : OpenClaim := { program := "ytopnegbaieflpaa", sum := "0d201d38964e86e7de945a9545528a098abcc09cb3416c7e77fe07b48f4e1bbf", func := "loop.example/flexlayout/laws.FnExactReadCell", spec := "fnExactReadCell", apart := false }
def FnExactReadCellSaid : Prop := fnExactReadCellRow.holds Try.pinned (OpenSpec.ofChange fnExactReadCellSpec)

/-- ITS FALSE NEIGHBOUR: 'it returns false'. Refute it at one input. -/
def fnExactReadCellWrong : ChangeSpec := { name := "fnExactReadCell", fn := fun _ => fun
  | [d1, d2] => { results := [.lit (.bool false)], args := [d1, d2] }
  | _ => none }
def FnExactReadCellWrongFalsely : Prop := fnExactReadCellRow.holds Try.pinned (OpenSpec.ofChange fnExactReadCellWrong)

/-- 'laws.FnExactWriteCell': WHATEVER THE INPUT: true; the input reads as it did. -/
def fnExactWriteCellSpec : ChangeSpec := { name := "fnExactWriteCell", fn := fun _ => fun
  | [d1, d2, d3] => { results := [.lit (.bool true)], args := [d1, d2, d3] }
  | _ => none }
def fnExactWriteCellRow : OpenClaim := { program := "ytopnegbaieflpaa", sum := "0d201d38964e86e7de945a9545528a098abcc09cb3416c7e77fe07b48f4e1bbf", func := "loop.example/flexlayout/laws.FnExactWriteCell", spec := "fnExactWriteCell", apart := false }
def FnExactWriteCellSaid : Prop := fnExactWriteCellRow.holds Try.pinned (OpenSpec.ofChange fnExactWriteCellSpec)

/-- ITS FALSE NEIGHBOUR: 'it returns false'. Refute it at one input. -/
def fnExactWriteCellWrong : ChangeSpec := { name := "fnExactWriteCell", fn := fun _ => fun
  | [d1, d2, d3] => { results := [.lit (.bool false)], args := [d1, d2, d3] }
  | _ => none }
def FnExactWriteCellWrongFalsely : Prop := fnExactWriteCellRow.holds Try.pinned (OpenSpec.ofChange fnExactWriteCellWrong)

/-- 'laws.FnExactSwapBuffers': WHATEVER THE INPUT: true; the input reads as it did. -/
def fnExactSwapBuffersSpec : ChangeSpec := { name := "fnExactSwapBuffers", fn := fun _ => fun
  | [d] => { results := [.lit (.bool true)], args := [d] }
  | _ => none }
def fnExactSwapBuffersRow : OpenClaim := { program := "ytopnegbaieflpaa", sum := "0d201d38964e86e7de945a9545528a098abcc09cb3416c7e77fe07b48f4e1bbf", func := "loop.example/flexlayout/laws.FnExactSwapBuffers", spec := "fnExactSwapBuffers", apart := false }
def FnExactSwapBuffersSaid : Prop := fnExactSwapBuffersRow.holds Try.pinned (OpenSpec.ofChange fnExactSwapBuffersSpec)

/-- ITS FALSE NEIGHBOUR: 'it returns false'. Refute it at one input. -/
def fnExactSwapBuffersWrong : ChangeSpec := { name := "fnExactSwapBuffers", fn := fun _ => fun
  | [d] => { results := [.lit (.bool false)], args := [d] }
  | _ => none }
def FnExactSwapBuffersWrongFalsely : Prop := fnExactSwapBuffersRow.holds Try.pinned (OpenSpec.ofChange fnExactSwapBuffersWrong)

/-- 'laws.FnExactDropBack': WHATEVER THE INPUT: true; the input reads as it did. -/
def fnExactDropBackSpec : ChangeSpec := { name := "fnExactDropBack", fn := fun _ => fun
  | [d] => { results := [.lit (.bool true)], args := [d] }
  | _ => none }
def fnExactDropBackRow : OpenClaim := { program := "ytopnegbaieflpaa", sum := "0d201d38964e86e7de945a9545528a098abcc09cb3416c7e77fe07b48f4e1bbf", func := "loop.example/flexlayout/laws.FnExactDropBack", spec := "fnExactDropBack", apart := false }
def FnExactDropBackSaid : Prop := fnExactDropBackRow.holds Try.pinned (OpenSpec.ofChange fnExactDropBackSpec)

/-- ITS FALSE NEIGHBOUR: 'it returns false'. Refute it at one input. -/
def fnExactDropBackWrong : ChangeSpec := { name := "fnExactDropBack", fn := fun _ => fun
  | [d] => { results := [.lit (.bool false)], args := [d] }
  | _ => none }
def FnExactDropBackWrongFalsely : Prop := fnExactDropBackRow.holds Try.pinned (OpenSpec.ofChange fnExactDropBackWrong)

/-- 'laws.FnExactPendingCells': WHATEVER THE INPUT: true; the input reads as it did. -/
def fnExactPendingCellsSpec : ChangeSpec := { name := "fnExactPendingCells", fn := fun _ => fun
  | [d] => { results := [.lit (.bool true)], args := [d] }
  | _ => none }
def fnExactPendingCellsRow : OpenClaim := { program := "ytopnegbaieflpaa", sum := "0d201d38964e86e7de945a9545528a098abcc09cb3416c7e77fe07b48f4e1bbf", func := "loop.example/flexlayout/laws.FnExactPendingCells", spec := "fnExactPendingCells", apart := false }
def FnExactPendingCellsSaid : Prop := fnExactPendingCellsRow.holds Try.pinned (OpenSpec.ofChange fnExactPendingCellsSpec)

/-- ITS FALSE NEIGHBOUR: 'it returns false'. Refute it at one input. -/
def fnExactPendingCellsWrong : ChangeSpec := { name := "fnExactPendingCells", fn := fun _ => fun
  | [d] => { results := [.lit (.bool false)], args := [d] }
  | _ => none }
def FnExactPendingCellsWrongFalsely : Prop := fnExactPendingCellsRow.holds Try.pinned (OpenSpec.ofChange fnExactPendingCellsWrong)

/-- 'laws.FnValidBuffers': WHATEVER THE INPUT: true; the input reads as it did. -/
def fnValidBuffersSpec : ChangeSpec := { name := "fnValidBuffers", fn := fun _ => fun
  | [d] => { results := [.lit (.bool true)], args := [d] }
  | _ => none }
def fnValidBuffersRow : OpenClaim := { program := "ytopnegbaieflpaa", sum := "0d201d38964e86e7de945a9545528a098abcc09cb3416c7e77fe07b48f4e1bbf", func := "loop.example/flexlayout/laws.FnValidBuffers", spec := "fnValidBuffers", apart := false }
def FnValidBuffersSaid : Prop := fnValidBuffersRow.holds Try.pinned (OpenSpec.ofChange fnValidBuffersSpec)

/-- ITS FALSE NEIGHBOUR: 'it returns false'. Refute it at one input. -/
def fnValidBuffersWrong : ChangeSpec := { name := "fnValidBuffers", fn := fun _ => fun
  | [d] => { results := [.lit (.bool false)], args := [d] }
  | _ => none }
def FnValidBuffersWrongFalsely : Prop := fnValidBuffersRow.holds Try.pinned (OpenSpec.ofChange fnValidBuffersWrong)

/-- 'laws.FnWriteCell': WHATEVER THE INPUT: true; the input reads as it did. -/
def fnWriteCellSpec : ChangeSpec := { name := "fnWriteCell", fn := fun _ => fun
  | [d] => { results := [.lit (.bool true)], args := [d] }
  | _ => none }
def fnWriteCellRow : OpenClaim := { program := "ytopnegbaieflpaa", sum := "0d201d38964e86e7de945a9545528a098abcc09cb3416c7e77fe07b48f4e1bbf", func := "loop.example/flexlayout/laws.FnWriteCell", spec := "fnWriteCell", apart := false }
def FnWriteCellSaid : Prop := fnWriteCellRow.holds Try.pinned (OpenSpec.ofChange fnWriteCellSpec)

/-- ITS FALSE NEIGHBOUR: 'it returns false'. Refute it at one input. -/
def fnWriteCellWrong : ChangeSpec := { name := "fnWriteCell", fn := fun _ => fun
  | [d] => { results := [.lit (.bool false)], args := [d] }
  | _ => none }
def FnWriteCellWrongFalsely : Prop := fnWriteCellRow.holds Try.pinned (OpenSpec.ofChange fnWriteCellWrong)

/-- 'laws.FnWriteCellOrder': WHATEVER THE INPUT: true; the input reads as it did. -/
def fnWriteCellOrderSpec : ChangeSpec := { name := "fnWriteCellOrder", fn := fun _ => fun
  | [d] => { results := [.lit (.bool true)], args := [d] }
  | _ => none }
def fnWriteCellOrderRow : OpenClaim := { program := "ytopnegbaieflpaa", sum := "0d201d38964e86e7de945a9545528a098abcc09cb3416c7e77fe07b48f4e1bbf", func := "loop.example/flexlayout/laws.FnWriteCellOrder", spec := "fnWriteCellOrder", apart := false }
def FnWriteCellOrderSaid : Prop := fnWriteCellOrderRow.holds Try.pinned (OpenSpec.ofChange fnWriteCellOrderSpec)

/-- ITS FALSE NEIGHBOUR: 'it returns false'. Refute it at one input. -/
def fnWriteCellOrderWrong : ChangeSpec := { name := "fnWriteCellOrder", fn := fun _ => fun
  | [d] => { results := [.lit (.bool false)], args := [d] }
  | _ => none }
def FnWriteCellOrderWrongFalsely : Prop := fnWriteCellOrderRow.holds Try.pinned (OpenSpec.ofChange fnWriteCellOrderWrong)

/-- 'laws.FnReadCell': WHATEVER THE INPUT: true; the input reads as it did. -/
def fnReadCellSpec : ChangeSpec := { name := "fnReadCell", fn := fun _ => fun
  | [d] => { results := [.lit (.bool true)], args := [d] }
  | _ => none }
def fnReadCellRow : OpenClaim := { program := "ytopnegbaieflpaa", sum := "0d201d38964e86e7de945a9545528a098abcc09cb3416c7e77fe07b48f4e1bbf", func := "loop.example/flexlayout/laws.FnReadCell", spec := "fnReadCell", apart := false }
def FnReadCellSaid : Prop := fnReadCellRow.holds Try.pinned (OpenSpec.ofChange fnReadCellSpec)

/-- ITS FALSE NEIGHBOUR: 'it returns false'. Refute it at one input. -/
def fnReadCellWrong : ChangeSpec := { name := "fnReadCell", fn := fun _ => fun
  | [d] => { results := [.lit (.bool false)], args := [d] }
  | _ => none }
def FnReadCellWrongFalsely : Prop := fnReadCellRow.holds Try.pinned (OpenSpec.ofChange fnReadCellWrong)

/-- 'laws.FnSwapBuffers': WHATEVER THE INPUT: true; the input reads as it did. -/
def fnSwapBuffersSpec : ChangeSpec := { name := "fnSwapBuffers", fn := fun _ => fun
  | [d] => { results := [.lit (.bool true)], args := [d] }
  | _ => none }
def fnSwapBuffersRow : OpenClaim := { program := "ytopnegbaieflpaa", sum := "0d201d38964e86e7de945a9545528a098abcc09cb3416c7e77fe07b48f4e1bbf", func := "loop.example/flexlayout/laws.FnSwapBuffers", spec := "fnSwapBuffers", apart := false }
def FnSwapBuffersSaid : Prop := fnSwapBuffersRow.holds Try.pinned (OpenSpec.ofChange fnSwapBuffersSpec)

/-- ITS FALSE NEIGHBOUR: 'it returns false'. Refute it at one input. -/
def fnSwapBuffersWrong : ChangeSpec := { name := "fnSwapBuffers", fn := fun _ => fun
  | [d] => { results := [.lit (.bool false)], args := [d] }
  | _ => none }
def FnSwapBuffersWrongFalsely : Prop := fnSwapBuffersRow.holds Try.pinned (OpenSpec.ofChange fnSwapBuffersWrong)

/-- 'laws.FnSwapBuffersTwice': WHATEVER THE INPUT: true; the input reads as it did. -/
def fnSwapBuffersTwiceSpec : ChangeSpec := { name := "fnSwapBuffersTwice", fn := fun _ => fun
  | [d] => { results := [.lit (.bool true)], args := [d] }
  | _ => none }
def fnSwapBuffersTwiceRow : OpenClaim := { program := "ytopnegbaieflpaa", sum := "0d201d38964e86e7de945a9545528a098abcc09cb3416c7e77fe07b48f4e1bbf", func := "loop.example/flexlayout/laws.FnSwapBuffersTwice", spec := "fnSwapBuffersTwice", apart := false }
def FnSwapBuffersTwiceSaid : Prop := fnSwapBuffersTwiceRow.holds Try.pinned (OpenSpec.ofChange fnSwapBuffersTwiceSpec)

/-- ITS FALSE NEIGHBOUR: 'it returns false'. Refute it at one input. -/
def fnSwapBuffersTwiceWrong : ChangeSpec := { name := "fnSwapBuffersTwice", fn := fun _ => fun
  | [d] => { results := [.lit (.bool false)], args := [d] }
  | _ => none }
def FnSwapBuffersTwiceWrongFalsely : Prop := fnSwapBuffersTwiceRow.holds Try.pinned (OpenSpec.ofChange fnSwapBuffersTwiceWrong)

/- THE SECOND FORM. 'bulk': how many values and letters a reading holds, each counted each time it is reached (what is shared counts as often as it is met; a slice's spare places count too). A statement '..UptoSaid' is the law's where the arguments, and the package variables that the reading takes, are together of bulk at most 1048576: NARROWER than '..Said'. Prove '..Said' where nothing that the law and all that it calls make is longer than what came in: it says more and counts as full. Else prove '..UptoSaid'. A law counts once. -/
mutual
def uptoBulk {H : Type} : DataW H → Nat
  | .lit (.string bytes) => bytes.length + 1
  | .lit _ => 1
  | .nil => 1
  | .ptr d => uptoBulk d + 1
  | .slice elems spare => uptoBulkAll elems + uptoBulkAll spare + 1
  | .agg parts => uptoBulkAll parts + 1
  | .iface _ d => uptoBulk d + 1
  | .map entries => uptoBulkEntries entries + 1
  | .held _ => 1
def uptoBulkAll {H : Type} : List (DataW H) → Nat
  | [] => 0
  | d :: r => uptoBulk d + uptoBulkAll r
def uptoBulkEntries {H : Type} : List (Lit × DataW H) → Nat
  | [] => 0
  | x :: r => uptoBulkEntry x + uptoBulkEntries r
def uptoBulkEntry {H : Type} : Lit × DataW H → Nat
  | (.string bytes, d) => bytes.length + uptoBulk d + 1
  | (_, d) => uptoBulk d + 1
 end
def uptoSmall : (H : Type) → List (DataW H) → Bool := fun _ ds => decide (uptoBulkAll ds ≤ 1048576)
def OpenSpec.upto (s : _root_.Go.ChangeSpec) : _root_.Go.OpenSpec := { _root_.Go.OpenSpec.ofChange s with cond := some uptoSmall }

/-- 'laws.FnExactValidBuffers', WHERE WHAT IT READS IS OF BULK AT MOST 1048576: true; the input reads as it did. -/
def fnExactValidBuffersUptoRow : OpenClaim := { program := "ytopnegbaieflpaa", sum := "0d201d38964e86e7de945a9545528a098abcc09cb3416c7e77fe07b48f4e1bbf", func := "loop.example/flexlayout/laws.FnExactValidBuffers", spec := "fnExactValidBuffers", apart := false, narrowed := true }
def FnExactValidBuffersUptoSaid : Prop := fnExactValidBuffersUptoRow.holds Try.pinned (OpenSpec.upto fnExactValidBuffersSpec)

/-- 'laws.FnExactReadCell', WHERE WHAT IT READS IS OF BULK AT MOST 1048576: true; the input reads as it did. -/
def fnExactReadCellUptoRow : OpenClaim := { program := "ytopnegbaieflpaa", sum := "0d201d38964e86e7de945a9545528a098abcc09cb3416c7e77fe07b48f4e1bbf", func := "loop.example/flexlayout/laws.FnExactReadCell", spec := "fnExactReadCell", apart := false, narrowed := true }
def FnExactReadCellUptoSaid : Prop := fnExactReadCellUptoRow.holds Try.pinned (OpenSpec.upto fnExactReadCellSpec)

/-- 'laws.FnExactWriteCell', WHERE WHAT IT READS IS OF BULK AT MOST 1048576: true; the input reads as it did. -/
def fnExactWriteCellUptoRow : OpenClaim := { program := "ytopnegbaieflpaa", sum := "0d201d38964e86e7de945a9545528a098abcc09cb3416c7e77fe07b48f4e1bbf", func := "loop.example/flexlayout/laws.FnExactWriteCell", spec := "fnExactWriteCell", apart := false, narrowed := true }
def FnExactWriteCellUptoSaid : Prop := fnExactWriteCellUptoRow.holds Try.pinned (OpenSpec.upto fnExactWriteCellSpec)

/-- 'laws.FnExactSwapBuffers', WHERE WHAT IT READS IS OF BULK AT MOST 1048576: true; the input reads as it did. -/
def fnExactSwapBuffersUptoRow : OpenClaim := { program := "ytopnegbaieflpaa", sum := "0d201d38964e86e7de945a9545528a098abcc09cb3416c7e77fe07b48f4e1bbf", func := "loop.example/flexlayout/laws.FnExactSwapBuffers", spec := "fnExactSwapBuffers", apart := false, narrowed := true }
def FnExactSwapBuffersUptoSaid : Prop := fnExactSwapBuffersUptoRow.holds Try.pinned (OpenSpec.upto fnExactSwapBuffersSpec)

/-- 'laws.FnExactDropBack', WHERE WHAT IT READS IS OF BULK AT MOST 1048576: true; the input reads as it did. -/
def fnExactDropBackUptoRow : OpenClaim := { program := "ytopnegbaieflpaa", sum := "0d201d38964e86e7de945a9545528a098abcc09cb3416c7e77fe07b48f4e1bbf", func := "loop.example/flexlayout/laws.FnExactDropBack", spec := "fnExactDropBack", apart := false, narrowed := true }
def FnExactDropBackUptoSaid : Prop := fnExactDropBackUptoRow.holds Try.pinned (OpenSpec.upto fnExactDropBackSpec)

/-- 'laws.FnExactPendingCells', WHERE WHAT IT READS IS OF BULK AT MOST 1048576: true; the input reads as it did. -/
def fnExactPendingCellsUptoRow : OpenClaim := { program := "ytopnegbaieflpaa", sum := "0d201d38964e86e7de945a9545528a098abcc09cb3416c7e77fe07b48f4e1bbf", func := "loop.example/flexlayout/laws.FnExactPendingCells", spec := "fnExactPendingCells", apart := false, narrowed := true }
def FnExactPendingCellsUptoSaid : Prop := fnExactPendingCellsUptoRow.holds Try.pinned (OpenSpec.upto fnExactPendingCellsSpec)

/-- 'laws.FnValidBuffers', WHERE WHAT IT READS IS OF BULK AT MOST 1048576: true; the input reads as it did. -/
def fnValidBuffersUptoRow : OpenClaim := { program := "ytopnegbaieflpaa", sum := "0d201d38964e86e7de945a9545528a098abcc09cb3416c7e77fe07b48f4e1bbf", func := "loop.example/flexlayout/laws.FnValidBuffers", spec := "fnValidBuffers", apart := false, narrowed := true }
def FnValidBuffersUptoSaid : Prop := fnValidBuffersUptoRow.holds Try.pinned (OpenSpec.upto fnValidBuffersSpec)

/-- 'laws.FnWriteCell', WHERE WHAT IT READS IS OF BULK AT MOST 1048576: true; the input reads as it did. -/
def fnWriteCellUptoRow : OpenClaim := { program := "ytopnegbaieflpaa", sum := "0d201d38964e86e7de945a9545528a098abcc09cb3416c7e77fe07b48f4e1bbf", func := "loop.example/flexlayout/laws.FnWriteCell", spec := "fnWriteCell", apart := false, narrowed := true }
def FnWriteCellUptoSaid : Prop := fnWriteCellUptoRow.holds Try.pinned (OpenSpec.upto fnWriteCellSpec)

/-- 'laws.FnWriteCellOrder', WHERE WHAT IT READS IS OF BULK AT MOST 1048576: true; the input reads as it did. -/
def fnWriteCellOrderUptoRow : OpenClaim := { program := "ytopnegbaieflpaa", sum := "0d201d38964e86e7de945a9545528a098abcc09cb3416c7e77fe07b48f4e1bbf", func := "loop.example/flexlayout/laws.FnWriteCellOrder", spec := "fnWriteCellOrder", apart := false, narrowed := true }
def FnWriteCellOrderUptoSaid : Prop := fnWriteCellOrderUptoRow.holds Try.pinned (OpenSpec.upto fnWriteCellOrderSpec)

/-- 'laws.FnReadCell', WHERE WHAT IT READS IS OF BULK AT MOST 1048576: true; the input reads as it did. -/
def fnReadCellUptoRow : OpenClaim := { program := "ytopnegbaieflpaa", sum := "0d201d38964e86e7de945a9545528a098abcc09cb3416c7e77fe07b48f4e1bbf", func := "loop.example/flexlayout/laws.FnReadCell", spec := "fnReadCell", apart := false, narrowed := true }
def FnReadCellUptoSaid : Prop := fnReadCellUptoRow.holds Try.pinned (OpenSpec.upto fnReadCellSpec)

/-- 'laws.FnSwapBuffers', WHERE WHAT IT READS IS OF BULK AT MOST 1048576: true; the input reads as it did. -/
def fnSwapBuffersUptoRow : OpenClaim := { program := "ytopnegbaieflpaa", sum := "0d201d38964e86e7de945a9545528a098abcc09cb3416c7e77fe07b48f4e1bbf", func := "loop.example/flexlayout/laws.FnSwapBuffers", spec := "fnSwapBuffers", apart := false, narrowed := true }
def FnSwapBuffersUptoSaid : Prop := fnSwapBuffersUptoRow.holds Try.pinned (OpenSpec.upto fnSwapBuffersSpec)

/-- 'laws.FnSwapBuffersTwice', WHERE WHAT IT READS IS OF BULK AT MOST 1048576: true; the input reads as it did. -/
def fnSwapBuffersTwiceUptoRow : OpenClaim := { program := "ytopnegbaieflpaa", sum := "0d201d38964e86e7de945a9545528a098abcc09cb3416c7e77fe07b48f4e1bbf", func := "loop.example/flexlayout/laws.FnSwapBuffersTwice", spec := "fnSwapBuffersTwice", apart := false, narrowed := true }
def FnSwapBuffersTwiceUptoSaid : Prop := fnSwapBuffersTwiceUptoRow.holds Try.pinned (OpenSpec.upto fnSwapBuffersTwiceSpec)

end Rows
end Go.Proofs.Ytopnegbaieflpaa
