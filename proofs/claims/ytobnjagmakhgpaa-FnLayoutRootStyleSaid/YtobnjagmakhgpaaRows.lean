/-
  No cell of these rows narrows 'for every input' (looked for: loops, veiled, ifaces, maps, wideKeys, modest, calm, conditions, laid).
  DERIVED. THE GIVEN ROWS OF THIS SEAT. 6 by the template 'for every input the law returns true; each argument reads behind the call as it read before'; 0 by the template 'total and deterministic' (their statements: YtobnjagmakhgpaaTotals.lean).
  GIVEN WITH THE SEED: the statements are not yours to turn. If you find one false, say at which input.
  Laid BY PROGRAM, IN A SANDBOX (cutbox-rows.mjs): the forced cells as the released guide's own fill.sh prints them over the translation 330df8b6e2933540… (all of the seat's roots in one cut). By AI agents, Wed Nov 11 2026. No macro, syntax, notation, axiom, sorry.
-/
import Derived.Test.YtobnjagmakhgpaaChecked
import GoSem.Claim
import GoSem.ClaimJoined
import GoSem.ClaimMapViews
import Derived.JoinedTies
import Derived.KernelRfl
namespace Go.Proofs.Ytobnjagmakhgpaa
/- THE CELL 'sum', in the pinned program and in every row, IS THE sha256 OF THE DUMP (.gsa) THAT YtobnjagmakhgpaaProg.lean LOADS. Nothing in Lean hashes anything: it is a label: what it is worth is what the hold of that sum in a sandbox is worth. -/
noncomputable def Try.pinned : Pinned := { name := "ytobnjagmakhgpaa", sum := "330df8b6e2933540a553ae009b69a92612f6d7650eb8b1d491e6af17cb4798a7", checked := Try.checked }
namespace Rows
def none {H : Type} : Left H := { results := [], args := [] }

/-- 'laws.FnLayoutTreeRow': WHATEVER THE INPUT: true; the input reads as it did. -/
def fnLayoutTreeRowSpec : ChangeSpec := { name := "fnLayoutTreeRow", fn := fun _ => fun
  | [d] => { results := [.lit (.bool true)], args := [d] }
  | _ => none }
def fnLayoutTreeRowRow : OpenClaim := { program := "ytobnjagmakhgpaa", sum := "330df8b6e2933540a553ae009b69a92612f6d7650eb8b1d491e6af17cb4798a7", func := "loop.example/flexlayout/laws.FnLayoutTreeRow", spec := "fnLayoutTreeRow", unfollowed := true, recurses := true, apart := false }
def FnLayoutTreeRowSaid : Prop := fnLayoutTreeRowRow.holds Try.pinned (OpenSpec.ofChange fnLayoutTreeRowSpec)

/-- ITS FALSE NEIGHBOUR: 'it returns false'. Refute it at one input. -/
def fnLayoutTreeRowWrong : ChangeSpec := { name := "fnLayoutTreeRow", fn := fun _ => fun
  | [d] => { results := [.lit (.bool false)], args := [d] }
  | _ => none }
def FnLayoutTreeRowWrongFalsely : Prop := fnLayoutTreeRowRow.holds Try.pinned (OpenSpec.ofChange fnLayoutTreeRowWrong)

/-- 'laws.FnPartOfSize': WHATEVER THE INPUT: true; the input reads as it did. -/
def fnPartOfSizeSpec : ChangeSpec := { name := "fnPartOfSize", fn := fun _ => fun
  | [d] => { results := [.lit (.bool true)], args := [d] }
  | _ => none }
def fnPartOfSizeRow : OpenClaim := { program := "ytobnjagmakhgpaa", sum := "330df8b6e2933540a553ae009b69a92612f6d7650eb8b1d491e6af17cb4798a7", func := "loop.example/flexlayout/laws.FnPartOfSize", spec := "fnPartOfSize", unfollowed := true, recurses := true, apart := false }
def FnPartOfSizeSaid : Prop := fnPartOfSizeRow.holds Try.pinned (OpenSpec.ofChange fnPartOfSizeSpec)

/-- ITS FALSE NEIGHBOUR: 'it returns false'. Refute it at one input. -/
def fnPartOfSizeWrong : ChangeSpec := { name := "fnPartOfSize", fn := fun _ => fun
  | [d] => { results := [.lit (.bool false)], args := [d] }
  | _ => none }
def FnPartOfSizeWrongFalsely : Prop := fnPartOfSizeRow.holds Try.pinned (OpenSpec.ofChange fnPartOfSizeWrong)

/-- 'laws.FnAddBoxSize': WHATEVER THE INPUT: true; the input reads as it did. -/
def fnAddBoxSizeSpec : ChangeSpec := { name := "fnAddBoxSize", fn := fun _ => fun
  | [d] => { results := [.lit (.bool true)], args := [d] }
  | _ => none }
def fnAddBoxSizeRow : OpenClaim := { program := "ytobnjagmakhgpaa", sum := "330df8b6e2933540a553ae009b69a92612f6d7650eb8b1d491e6af17cb4798a7", func := "loop.example/flexlayout/laws.FnAddBoxSize", spec := "fnAddBoxSize", inPlace := ["slices.overlaps[loop.example/flexlayout/impl.Box]"], unfollowed := true, recurses := true, apart := false }
def FnAddBoxSizeSaid : Prop := fnAddBoxSizeRow.holds Try.pinned (OpenSpec.ofChange fnAddBoxSizeSpec)

/-- ITS FALSE NEIGHBOUR: 'it returns false'. Refute it at one input. -/
def fnAddBoxSizeWrong : ChangeSpec := { name := "fnAddBoxSize", fn := fun _ => fun
  | [d] => { results := [.lit (.bool false)], args := [d] }
  | _ => none }
def FnAddBoxSizeWrongFalsely : Prop := fnAddBoxSizeRow.holds Try.pinned (OpenSpec.ofChange fnAddBoxSizeWrong)

/-- 'laws.FnNaturalSizePad': WHATEVER THE INPUT: true; the input reads as it did. -/
def fnNaturalSizePadSpec : ChangeSpec := { name := "fnNaturalSizePad", fn := fun _ => fun
  | [d] => { results := [.lit (.bool true)], args := [d] }
  | _ => none }
def fnNaturalSizePadRow : OpenClaim := { program := "ytobnjagmakhgpaa", sum := "330df8b6e2933540a553ae009b69a92612f6d7650eb8b1d491e6af17cb4798a7", func := "loop.example/flexlayout/laws.FnNaturalSizePad", spec := "fnNaturalSizePad", unfollowed := true, recurses := true, apart := false }
def FnNaturalSizePadSaid : Prop := fnNaturalSizePadRow.holds Try.pinned (OpenSpec.ofChange fnNaturalSizePadSpec)

/-- ITS FALSE NEIGHBOUR: 'it returns false'. Refute it at one input. -/
def fnNaturalSizePadWrong : ChangeSpec := { name := "fnNaturalSizePad", fn := fun _ => fun
  | [d] => { results := [.lit (.bool false)], args := [d] }
  | _ => none }
def FnNaturalSizePadWrongFalsely : Prop := fnNaturalSizePadRow.holds Try.pinned (OpenSpec.ofChange fnNaturalSizePadWrong)

/-- 'laws.FnLayoutRootStyle': WHATEVER THE INPUT: true; the input reads as it did. -/
def fnLayoutRootStyleSpec : ChangeSpec := { name := "fnLayoutRootStyle", fn := fun _ => fun
  | [d] => { results := [.lit (.bool true)], args := [d] }
  | _ => none }
def fnLayoutRootStyleRow : OpenClaim := { program := "ytobnjagmakhgpaa", sum := "330df8b6e2933540a553ae009b69a92612f6d7650eb8b1d491e6af17cb4798a7", func := "loop.example/flexlayout/laws.FnLayoutRootStyle", spec := "fnLayoutRootStyle", unfollowed := true, recurses := true, apart := false }
def FnLayoutRootStyleSaid : Prop := fnLayoutRootStyleRow.holds Try.pinned (OpenSpec.ofChange fnLayoutRootStyleSpec)

/-- ITS FALSE NEIGHBOUR: 'it returns false'. Refute it at one input. -/
def fnLayoutRootStyleWrong : ChangeSpec := { name := "fnLayoutRootStyle", fn := fun _ => fun
  | [d] => { results := [.lit (.bool false)], args := [d] }
  | _ => none }
def FnLayoutRootStyleWrongFalsely : Prop := fnLayoutRootStyleRow.holds Try.pinned (OpenSpec.ofChange fnLayoutRootStyleWrong)

/-- 'laws.FnDirtyRootsOne': WHATEVER THE INPUT: true; the input reads as it did. -/
def fnDirtyRootsOneSpec : ChangeSpec := { name := "fnDirtyRootsOne", fn := fun _ => fun
  | [d] => { results := [.lit (.bool true)], args := [d] }
  | _ => none }
def fnDirtyRootsOneRow : OpenClaim := { program := "ytobnjagmakhgpaa", sum := "330df8b6e2933540a553ae009b69a92612f6d7650eb8b1d491e6af17cb4798a7", func := "loop.example/flexlayout/laws.FnDirtyRootsOne", spec := "fnDirtyRootsOne", apart := false }
def FnDirtyRootsOneSaid : Prop := fnDirtyRootsOneRow.holds Try.pinned (OpenSpec.ofChange fnDirtyRootsOneSpec)

/-- ITS FALSE NEIGHBOUR: 'it returns false'. Refute it at one input. -/
def fnDirtyRootsOneWrong : ChangeSpec := { name := "fnDirtyRootsOne", fn := fun _ => fun
  | [d] => { results := [.lit (.bool false)], args := [d] }
  | _ => none }
def FnDirtyRootsOneWrongFalsely : Prop := fnDirtyRootsOneRow.holds Try.pinned (OpenSpec.ofChange fnDirtyRootsOneWrong)

/- THE SECOND FORM. 'bulk': how many values and letters a reading holds, each counted each time it is reached (what is shared counts as often as it is met; a slice's spare places count too). A statement '..UptoSaid' is the law's where the arguments, and the package variables that the reading takes, are together of bulk at most 1048576: NARROWER than '..Said'. Prove '..Said' where nothing that the law and all that it calls make is longer than what came in: it says more and counts as full. Else prove '..UptoSaid'. A law counts once. -/
mutual
def uptoBulk {H : Type} : DataW H → Nat
  | .lit (.string bytes) => bytes.length + 1
  | .lit _ => 1
  | .nil => 1
  | .ptr d => uptoBulk d + 1
  | .slice elems spare => uptoBulkAll elems + uptoBulkAll spare + 1
  | .agg parts => uptoBulkAll parts + 1
  | .iface _ d => uptoBulk d + 1
  | .map entries => uptoBulkEntries entries + 1
  | .held _ => 1
def uptoBulkAll {H : Type} : List (DataW H) → Nat
  | [] => 0
  | d :: r => uptoBulk d + uptoBulkAll r
def uptoBulkEntries {H : Type} : List (Lit × DataW H) → Nat
  | [] => 0
  | x :: r => uptoBulkEntry x + uptoBulkEntries r
def uptoBulkEntry {H : Type} : Lit × DataW H → Nat
  | (.string bytes, d) => bytes.length + uptoBulk d + 1
  | (_, d) => uptoBulk d + 1
 end
def uptoSmall : (H : Type) → List (DataW H) → Bool := fun _ ds => decide (uptoBulkAll ds ≤ 1048576)
def OpenSpec.upto (s : _root_.Go.ChangeSpec) : _root_.Go.OpenSpec := { _root_.Go.OpenSpec.ofChange s with cond := some uptoSmall }

/-- 'laws.FnLayoutTreeRow', WHERE WHAT IT READS IS OF BULK AT MOST 1048576: true; the input reads as it did. -/
def fnLayoutTreeRowUptoRow : OpenClaim := { program := "ytobnjagmakhgpaa", sum := "330df8b6e2933540a553ae009b69a92612f6d7650eb8b1d491e6af17cb4798a7", func := "loop.example/flexlayout/laws.FnLayoutTreeRow", spec := "fnLayoutTreeRow", unfollowed := true, recurses := true, apart := false, narrowed := true }
def FnLayoutTreeRowUptoSaid : Prop := fnLayoutTreeRowUptoRow.holds Try.pinned (OpenSpec.upto fnLayoutTreeRowSpec)

/-- 'laws.FnPartOfSize', WHERE WHAT IT READS IS OF BULK AT MOST 1048576: true; the input reads as it did. -/
def fnPartOfSizeUptoRow : OpenClaim := { program := "ytobnjagmakhgpaa", sum := "330df8b6e2933540a553ae009b69a92612f6d7650eb8b1d491e6af17cb4798a7", func := "loop.example/flexlayout/laws.FnPartOfSize", spec := "fnPartOfSize", unfollowed := true, recurses := true, apart := false, narrowed := true }
def FnPartOfSizeUptoSaid : Prop := fnPartOfSizeUptoRow.holds Try.pinned (OpenSpec.upto fnPartOfSizeSpec)

/-- 'laws.FnAddBoxSize', WHERE WHAT IT READS IS OF BULK AT MOST 1048576: true; the input reads as it did. -/
def fnAddBoxSizeUptoRow : OpenClaim := { program := "ytobnjagmakhgpaa", sum := "330df8b6e2933540a553ae009b69a92612f6d7650eb8b1d491e6af17cb4798a7", func := "loop.example/flexlayout/laws.FnAddBoxSize", spec := "fnAddBoxSize", inPlace := ["slices.overlaps[loop.example/flexlayout/impl.Box]"], unfollowed := true, recurses := true, apart := false, narrowed := true }
def FnAddBoxSizeUptoSaid : Prop := fnAddBoxSizeUptoRow.holds Try.pinned (OpenSpec.upto fnAddBoxSizeSpec)

/-- 'laws.FnNaturalSizePad', WHERE WHAT IT READS IS OF BULK AT MOST 1048576: true; the input reads as it did. -/
def fnNaturalSizePadUptoRow : OpenClaim := { program := "ytobnjagmakhgpaa", sum := "330df8b6e2933540a553ae009b69a92612f6d7650eb8b1d491e6af17cb4798a7", func := "loop.example/flexlayout/laws.FnNaturalSizePad", spec := "fnNaturalSizePad", unfollowed := true, recurses := true, apart := false, narrowed := true }
def FnNaturalSizePadUptoSaid : Prop := fnNaturalSizePadUptoRow.holds Try.pinned (OpenSpec.upto fnNaturalSizePadSpec)

/-- 'laws.FnLayoutRootStyle', WHERE WHAT IT READS IS OF BULK AT MOST 1048576: true; the input reads as it did. -/
def fnLayoutRootStyleUptoRow : OpenClaim := { program := "ytobnjagmakhgpaa", sum := "330df8b6e2933540a553ae009b69a92612f6d7650eb8b1d491e6af17cb4798a7", func := "loop.example/flexlayout/laws.FnLayoutRootStyle", spec := "fnLayoutRootStyle", unfollowed := true, recurses := true, apart := false, narrowed := true }
def FnLayoutRootStyleUptoSaid : Prop := fnLayoutRootStyleUptoRow.holds Try.pinned (OpenSpec.upto fnLayoutRootStyleSpec)

/-- 'laws.FnDirtyRootsOne', WHERE WHAT IT READS IS OF BULK AT MOST 1048576: true; the input reads as it did. -/
def fnDirtyRootsOneUptoRow : OpenClaim := { program := "ytobnjagmakhgpaa", sum := "330df8b6e2933540a553ae009b69a92612f6d7650eb8b1d491e6af17cb4798a7", func := "loop.example/flexlayout/laws.FnDirtyRootsOne", spec := "fnDirtyRootsOne", apart := false, narrowed := true }
def FnDirtyRootsOneUptoSaid : Prop := fnDirtyRootsOneUptoRow.holds Try.pinned (OpenSpec.upto fnDirtyRootsOneSpec)

end Rows
end Go.Proofs.Ytobnjagmakhgpaa
