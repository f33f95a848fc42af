/-
  No cell of these rows narrows 'for every input' (looked for: loops, veiled, ifaces, maps, wideKeys, modest, calm, conditions, laid).
  DERIVED. THE GIVEN ROWS OF THIS SEAT. 8 by the template 'for every input the law returns true; each argument reads behind the call as it read before'; 0 by the template 'total and deterministic' (their statements: YtnihklilappimaaTotals.lean).
  GIVEN WITH THE SEED: the statements are not yours to turn. If you find one false, say at which input.
  Laid BY PROGRAM, IN A SANDBOX (cutbox-rows.mjs): the forced cells as the released guide's own fill.sh prints them over the translation b4731541a10ba1c1… (all of the seat's roots in one cut). By AI agents, Wed Nov 11 2026. No macro, syntax, notation, axiom, sorry.
-/
import Derived.Test.YtnihklilappimaaChecked
import GoSem.Claim
import GoSem.ClaimJoined
import GoSem.ClaimMapViews
import Derived.JoinedTies
import Derived.KernelRfl
namespace Go.Proofs.Ytnihklilappimaa
/- THE CELL 'sum', in the pinned program and in every row, IS THE sha256 OF THE DUMP (.gsa) THAT YtnihklilappimaaProg.lean LOADS. Nothing in Lean hashes anything: it is a label: what it is worth is what the hold of that sum in a sandbox is worth. -/
noncomputable def Try.pinned : Pinned := { name := "ytnihklilappimaa", sum := "b4731541a10ba1c1768c0da09633c6ebc0864196db02e4dcabf9cba515198b9a", checked := Try.checked }
namespace Rows
def none {H : Type} : Left H := { results := [], args := [] }

/-- 'laws.FnDepthOfPath': WHATEVER THE INPUT: true; the input reads as it did. -/
def fnDepthOfPathSpec : ChangeSpec := { name := "fnDepthOfPath", fn := fun _ => fun
  | [d] => { results := [.lit (.bool true)], args := [d] }
  | _ => none }
def fnDepthOfPathRow : OpenClaim := { program := "ytnihklilappimaa", sum := "b4731541a10ba1c1768c0da09633c6ebc0864196db02e4dcabf9cba515198b9a", func := "loop.example/flexlayout/laws.FnDepthOfPath", spec := "fnDepthOfPath", apart := false }
def FnDepthOfPathSaid : Prop := fnDepthOfPathRow.holds Try.pinned (OpenSpec.ofChange fnDepthOfPathSpec)

/-- ITS FALSE NEIGHBOUR: 'it returns false'. Refute it at one input. -/
def fnDepthOfPathWrong : ChangeSpec := { name := "fnDepthOfPath", fn := fun _ => fun
  | [d] => { results := [.lit (.bool false)], args := [d] }
  | _ => none }
def FnDepthOfPathWrongFalsely : Prop := fnDepthOfPathRow.holds Try.pinned (OpenSpec.ofChange fnDepthOfPathWrong)

/-- 'laws.FnDirtyRootsOne': WHATEVER THE INPUT: true; the input reads as it did. -/
def fnDirtyRootsOneSpec : ChangeSpec := { name := "fnDirtyRootsOne", fn := fun _ => fun
  | [d] => { results := [.lit (.bool true)], args := [d] }
  | _ => none }
def fnDirtyRootsOneRow : OpenClaim := { program := "ytnihklilappimaa", sum := "b4731541a10ba1c1768c0da09633c6ebc0864196db02e4dcabf9cba515198b9a", func := "loop.example/flexlayout/laws.FnDirtyRootsOne", spec := "fnDirtyRootsOne", apart := false }
def FnDirtyRootsOneSaid : Prop := fnDirtyRootsOneRow.holds Try.pinned (OpenSpec.ofChange fnDirtyRootsOneSpec)

/-- ITS FALSE NEIGHBOUR: 'it returns false'. Refute it at one input. -/
def fnDirtyRootsOneWrong : ChangeSpec := { name := "fnDirtyRootsOne", fn := fun _ => fun
  | [d] => { results := [.lit (.bool false)], args := [d] }
  | _ => none }
def FnDirtyRootsOneWrongFalsely : Prop := fnDirtyRootsOneRow.holds Try.pinned (OpenSpec.ofChange fnDirtyRootsOneWrong)

/-- 'laws.FnDirtyBoxesAround': WHATEVER THE INPUT: true; the input reads as it did. -/
def fnDirtyBoxesAroundSpec : ChangeSpec := { name := "fnDirtyBoxesAround", fn := fun _ => fun
  | [d] => { results := [.lit (.bool true)], args := [d] }
  | _ => none }
def fnDirtyBoxesAroundRow : OpenClaim := { program := "ytnihklilappimaa", sum := "b4731541a10ba1c1768c0da09633c6ebc0864196db02e4dcabf9cba515198b9a", func := "loop.example/flexlayout/laws.FnDirtyBoxesAround", spec := "fnDirtyBoxesAround", apart := false }
def FnDirtyBoxesAroundSaid : Prop := fnDirtyBoxesAroundRow.holds Try.pinned (OpenSpec.ofChange fnDirtyBoxesAroundSpec)

/-- ITS FALSE NEIGHBOUR: 'it returns false'. Refute it at one input. -/
def fnDirtyBoxesAroundWrong : ChangeSpec := { name := "fnDirtyBoxesAround", fn := fun _ => fun
  | [d] => { results := [.lit (.bool false)], args := [d] }
  | _ => none }
def FnDirtyBoxesAroundWrongFalsely : Prop := fnDirtyBoxesAroundRow.holds Try.pinned (OpenSpec.ofChange fnDirtyBoxesAroundWrong)

/-- 'laws.FnLayoutRoot': WHATEVER THE INPUT: true; the input reads as it did. -/
def fnLayoutRootSpec : ChangeSpec := { name := "fnLayoutRoot", fn := fun _ => fun
  | [d] => { results := [.lit (.bool true)], args := [d] }
  | _ => none }
def fnLayoutRootRow : OpenClaim := { program := "ytnihklilappimaa", sum := "b4731541a10ba1c1768c0da09633c6ebc0864196db02e4dcabf9cba515198b9a", func := "loop.example/flexlayout/laws.FnLayoutRoot", spec := "fnLayoutRoot", apart := false }
def FnLayoutRootSaid : Prop := fnLayoutRootRow.holds Try.pinned (OpenSpec.ofChange fnLayoutRootSpec)

/-- ITS FALSE NEIGHBOUR: 'it returns false'. Refute it at one input. -/
def fnLayoutRootWrong : ChangeSpec := { name := "fnLayoutRoot", fn := fun _ => fun
  | [d] => { results := [.lit (.bool false)], args := [d] }
  | _ => none }
def FnLayoutRootWrongFalsely : Prop := fnLayoutRootRow.holds Try.pinned (OpenSpec.ofChange fnLayoutRootWrong)

/-- 'laws.FnAddBoxCount': WHATEVER THE INPUT: true; the input reads as it did. -/
def fnAddBoxCountSpec : ChangeSpec := { name := "fnAddBoxCount", fn := fun _ => fun
  | [d] => { results := [.lit (.bool true)], args := [d] }
  | _ => none }
def fnAddBoxCountRow : OpenClaim := { program := "ytnihklilappimaa", sum := "b4731541a10ba1c1768c0da09633c6ebc0864196db02e4dcabf9cba515198b9a", func := "loop.example/flexlayout/laws.FnAddBoxCount", spec := "fnAddBoxCount", inPlace := ["slices.overlaps[loop.example/flexlayout/impl.Box]"], recurses := true, apart := false }
def FnAddBoxCountSaid : Prop := fnAddBoxCountRow.holds Try.pinned (OpenSpec.ofChange fnAddBoxCountSpec)

/-- ITS FALSE NEIGHBOUR: 'it returns false'. Refute it at one input. -/
def fnAddBoxCountWrong : ChangeSpec := { name := "fnAddBoxCount", fn := fun _ => fun
  | [d] => { results := [.lit (.bool false)], args := [d] }
  | _ => none }
def FnAddBoxCountWrongFalsely : Prop := fnAddBoxCountRow.holds Try.pinned (OpenSpec.ofChange fnAddBoxCountWrong)

/-- 'laws.FnAddBox': WHATEVER THE INPUT: true; the input reads as it did. -/
def fnAddBoxSpec : ChangeSpec := { name := "fnAddBox", fn := fun _ => fun
  | [d] => { results := [.lit (.bool true)], args := [d] }
  | _ => none }
def fnAddBoxRow : OpenClaim := { program := "ytnihklilappimaa", sum := "b4731541a10ba1c1768c0da09633c6ebc0864196db02e4dcabf9cba515198b9a", func := "loop.example/flexlayout/laws.FnAddBox", spec := "fnAddBox", inPlace := ["slices.overlaps[loop.example/flexlayout/impl.Box]"], recurses := true, apart := false }
def FnAddBoxSaid : Prop := fnAddBoxRow.holds Try.pinned (OpenSpec.ofChange fnAddBoxSpec)

/-- ITS FALSE NEIGHBOUR: 'it returns false'. Refute it at one input. -/
def fnAddBoxWrong : ChangeSpec := { name := "fnAddBox", fn := fun _ => fun
  | [d] => { results := [.lit (.bool false)], args := [d] }
  | _ => none }
def FnAddBoxWrongFalsely : Prop := fnAddBoxRow.holds Try.pinned (OpenSpec.ofChange fnAddBoxWrong)

/-- 'laws.FnRemoveBox': WHATEVER THE INPUT: true; the input reads as it did. -/
def fnRemoveBoxSpec : ChangeSpec := { name := "fnRemoveBox", fn := fun _ => fun
  | [d] => { results := [.lit (.bool true)], args := [d] }
  | _ => none }
def fnRemoveBoxRow : OpenClaim := { program := "ytnihklilappimaa", sum := "b4731541a10ba1c1768c0da09633c6ebc0864196db02e4dcabf9cba515198b9a", func := "loop.example/flexlayout/laws.FnRemoveBox", spec := "fnRemoveBox", recurses := true, apart := false }
def FnRemoveBoxSaid : Prop := fnRemoveBoxRow.holds Try.pinned (OpenSpec.ofChange fnRemoveBoxSpec)

/-- ITS FALSE NEIGHBOUR: 'it returns false'. Refute it at one input. -/
def fnRemoveBoxWrong : ChangeSpec := { name := "fnRemoveBox", fn := fun _ => fun
  | [d] => { results := [.lit (.bool false)], args := [d] }
  | _ => none }
def FnRemoveBoxWrongFalsely : Prop := fnRemoveBoxRow.holds Try.pinned (OpenSpec.ofChange fnRemoveBoxWrong)

/-- 'laws.FnRemoveBoxOrder': WHATEVER THE INPUT: true; the input reads as it did. -/
def fnRemoveBoxOrderSpec : ChangeSpec := { name := "fnRemoveBoxOrder", fn := fun _ => fun
  | [d] => { results := [.lit (.bool true)], args := [d] }
  | _ => none }
def fnRemoveBoxOrderRow : OpenClaim := { program := "ytnihklilappimaa", sum := "b4731541a10ba1c1768c0da09633c6ebc0864196db02e4dcabf9cba515198b9a", func := "loop.example/flexlayout/laws.FnRemoveBoxOrder", spec := "fnRemoveBoxOrder", recurses := true, apart := false }
def FnRemoveBoxOrderSaid : Prop := fnRemoveBoxOrderRow.holds Try.pinned (OpenSpec.ofChange fnRemoveBoxOrderSpec)

/-- ITS FALSE NEIGHBOUR: 'it returns false'. Refute it at one input. -/
def fnRemoveBoxOrderWrong : ChangeSpec := { name := "fnRemoveBoxOrder", fn := fun _ => fun
  | [d] => { results := [.lit (.bool false)], args := [d] }
  | _ => none }
def FnRemoveBoxOrderWrongFalsely : Prop := fnRemoveBoxOrderRow.holds Try.pinned (OpenSpec.ofChange fnRemoveBoxOrderWrong)

/- THE SECOND FORM. 'bulk': how many values and letters a reading holds, each counted each time it is reached (what is shared counts as often as it is met; a slice's spare places count too). A statement '..UptoSaid' is the law's where the arguments, and the package variables that the reading takes, are together of bulk at most 1048576: NARROWER than '..Said'. Prove '..Said' where nothing that the law and all that it calls make is longer than what came in: it says more and counts as full. Else prove '..UptoSaid'. A law counts once. -/
mutual
def uptoBulk {H : Type} : DataW H → Nat
  | .lit (.string bytes) => bytes.length + 1
  | .lit _ => 1
  | .nil => 1
  | .ptr d => uptoBulk d + 1
  | .slice elems spare => uptoBulkAll elems + uptoBulkAll spare + 1
  | .agg parts => uptoBulkAll parts + 1
  | .iface _ d => uptoBulk d + 1
  | .map entries => uptoBulkEntries entries + 1
  | .held _ => 1
def uptoBulkAll {H : Type} : List (DataW H) → Nat
  | [] => 0
  | d :: r => uptoBulk d + uptoBulkAll r
def uptoBulkEntries {H : Type} : List (Lit × DataW H) → Nat
  | [] => 0
  | x :: r => uptoBulkEntry x + uptoBulkEntries r
def uptoBulkEntry {H : Type} : Lit × DataW H → Nat
  | (.string bytes, d) => bytes.length + uptoBulk d + 1
  | (_, d) => uptoBulk d + 1
 end
def uptoSmall : (H : Type) → List (DataW H) → Bool := fun _ ds => decide (uptoBulkAll ds ≤ 1048576)
def OpenSpec.upto (s : _root_.Go.ChangeSpec) : _root_.Go.OpenSpec := { _root_.Go.OpenSpec.ofChange s with cond := some uptoSmall }

/-- 'laws.FnDepthOfPath', WHERE WHAT IT READS IS OF BULK AT MOST 1048576: true; the input reads as it did. -/
def fnDepthOfPathUptoRow : OpenClaim := { program := "ytnihklilappimaa", sum := "b4731541a10ba1c1768c0da09633c6ebc0864196db02e4dcabf9cba515198b9a", func := "loop.example/flexlayout/laws.FnDepthOfPath", spec := "fnDepthOfPath", apart := false, narrowed := true }
def FnDepthOfPathUptoSaid : Prop := fnDepthOfPathUptoRow.holds Try.pinned (OpenSpec.upto fnDepthOfPathSpec)

/-- 'laws.FnDirtyRootsOne', WHERE WHAT IT READS IS OF BULK AT MOST 1048576: true; the input reads as it did. -/
def fnDirtyRootsOneUptoRow : OpenClaim := { program := "ytnihklilappimaa", sum := "b4731541a10ba1c1768c0da09633c6ebc0864196db02e4dcabf9cba515198b9a", func := "loop.example/flexlayout/laws.FnDirtyRootsOne", spec := "fnDirtyRootsOne", apart := false, narrowed := true }
def FnDirtyRootsOneUptoSaid : Prop := fnDirtyRootsOneUptoRow.holds Try.pinned (OpenSpec.upto fnDirtyRootsOneSpec)

/-- 'laws.FnDirtyBoxesAround', WHERE WHAT IT READS IS OF BULK AT MOST 1048576: true; the input reads as it did. -/
def fnDirtyBoxesAroundUptoRow : OpenClaim := { program := "ytnihklilappimaa", sum := "b4731541a10ba1c1768c0da09633c6ebc0864196db02e4dcabf9cba515198b9a", func := "loop.example/flexlayout/laws.FnDirtyBoxesAround", spec := "fnDirtyBoxesAround", apart := false, narrowed := true }
def FnDirtyBoxesAroundUptoSaid : Prop := fnDirtyBoxesAroundUptoRow.holds Try.pinned (OpenSpec.upto fnDirtyBoxesAroundSpec)

/-- 'laws.FnLayoutRoot', WHERE WHAT IT READS IS OF BULK AT MOST 1048576: true; the input reads as it did. -/
def fnLayoutRootUptoRow : OpenClaim := { program := "ytnihklilappimaa", sum := "b4731541a10ba1c1768c0da09633c6ebc0864196db02e4dcabf9cba515198b9a", func := "loop.example/flexlayout/laws.FnLayoutRoot", spec := "fnLayoutRoot", apart := false, narrowed := true }
def FnLayoutRootUptoSaid : Prop := fnLayoutRootUptoRow.holds Try.pinned (OpenSpec.upto fnLayoutRootSpec)

/-- 'laws.FnAddBoxCount', WHERE WHAT IT READS IS OF BULK AT MOST 1048576: true; the input reads as it did. -/
def fnAddBoxCountUptoRow : OpenClaim := { program := "ytnihklilappimaa", sum := "b4731541a10ba1c1768c0da09633c6ebc0864196db02e4dcabf9cba515198b9a", func := "loop.example/flexlayout/laws.FnAddBoxCount", spec := "fnAddBoxCount", inPlace := ["slices.overlaps[loop.example/flexlayout/impl.Box]"], recurses := true, apart := false, narrowed := true }
def FnAddBoxCountUptoSaid : Prop := fnAddBoxCountUptoRow.holds Try.pinned (OpenSpec.upto fnAddBoxCountSpec)

/-- 'laws.FnAddBox', WHERE WHAT IT READS IS OF BULK AT MOST 1048576: true; the input reads as it did. -/
def fnAddBoxUptoRow : OpenClaim := { program := "ytnihklilappimaa", sum := "b4731541a10ba1c1768c0da09633c6ebc0864196db02e4dcabf9cba515198b9a", func := "loop.example/flexlayout/laws.FnAddBox", spec := "fnAddBox", inPlace := ["slices.overlaps[loop.example/flexlayout/impl.Box]"], recurses := true, apart := false, narrowed := true }
def FnAddBoxUptoSaid : Prop := fnAddBoxUptoRow.holds Try.pinned (OpenSpec.upto fnAddBoxSpec)

/-- 'laws.FnRemoveBox', WHERE WHAT IT READS IS OF BULK AT MOST 1048576: true; the input reads as it did. -/
def fnRemoveBoxUptoRow : OpenClaim := { program := "ytnihklilappimaa", sum := "b4731541a10ba1c1768c0da09633c6ebc0864196db02e4dcabf9cba515198b9a", func := "loop.example/flexlayout/laws.FnRemoveBox", spec := "fnRemoveBox", recurses := true, apart := false, narrowed := true }
def FnRemoveBoxUptoSaid : Prop := fnRemoveBoxUptoRow.holds Try.pinned (OpenSpec.upto fnRemoveBoxSpec)

/-- 'laws.FnRemoveBoxOrder', WHERE WHAT IT READS IS OF BULK AT MOST 1048576: true; the input reads as it did. -/
def fnRemoveBoxOrderUptoRow : OpenClaim := { program := "ytnihklilappimaa", sum := "b4731541a10ba1c1768c0da09633c6ebc0864196db02e4dcabf9cba515198b9a", func := "loop.example/flexlayout/laws.FnRemoveBoxOrder", spec := "fnRemoveBoxOrder", recurses := true, apart := false, narrowed := true }
def FnRemoveBoxOrderUptoSaid : Prop := fnRemoveBoxOrderUptoRow.holds Try.pinned (OpenSpec.upto fnRemoveBoxOrderSpec)

end Rows
end Go.Proofs.Ytnihklilappimaa
