/-
  No cell of these rows narrows 'for every input' (looked for: loops, veiled, ifaces, maps, wideKeys, modest, calm, conditions, laid).
  DERIVED. THE GIVEN ROWS OF THIS SEAT. 4 by the template 'for every input the law returns true; each argument reads behind the call as it read before'; 0 by the template 'total and deterministic' (their statements: YtgedjpicodjmhaaTotals.lean).
  GIVEN WITH THE SEED: the statements are not yours to turn. If you find one false, say at which input.
  Laid BY PROGRAM, IN A SANDBOX (cutbox-rows.mjs): the forced cells as the released guide's own fill.sh prints them over the translation e9abd365af701a3b… (all of the seat's roots in one cut). By AI agents, Wed Nov 11 2026. No macro, syntax, notation, axiom, sorry.
-/
import Derived.Test.YtgedjpicodjmhaaChecked
import GoSem.Claim
import GoSem.ClaimJoined
import GoSem.ClaimMapViews
import Derived.JoinedTies
import Derived.KernelRfl
namespace Go.Proofs.Ytgedjpicodjmhaa
/- THE CELL 'sum', in the pinned program and in every row, IS THE sha256 OF THE DUMP (.gsa) THAT YtgedjpicodjmhaaProg.lean LOADS. Nothing in Lean hashes anything: it is a label: what it is worth is what the hold of that sum in a sandbox is worth. -/
noncomputable def Try.pinned : Pinned := { name := "ytgedjpicodjmhaa", sum := "e9abd365af701a3b72e5c5a505cd5ca883ad67a2f044f248f8ba6e0b1887c73c", checked := Try.checked }
namespace Rows
def none {H : Type} : Left H := { results := [], args := [] }

/-- 'laws.FnPartOfPart': WHATEVER THE INPUT: true; the input reads as it did. -/
def fnPartOfPartSpec : ChangeSpec := { name := "fnPartOfPart", fn := fun _ => fun
  | [d] => { results := [.lit (.bool true)], args := [d] }
  | _ => none }
def fnPartOfPartRow : OpenClaim := { program := "ytgedjpicodjmhaa", sum := "e9abd365af701a3b72e5c5a505cd5ca883ad67a2f044f248f8ba6e0b1887c73c", func := "loop.example/flexlayout/laws.FnPartOfPart", spec := "fnPartOfPart", recurses := true, apart := false }
def FnPartOfPartSaid : Prop := fnPartOfPartRow.holds Try.pinned (OpenSpec.ofChange fnPartOfPartSpec)

/-- ITS FALSE NEIGHBOUR: 'it returns false'. Refute it at one input. -/
def fnPartOfPartWrong : ChangeSpec := { name := "fnPartOfPart", fn := fun _ => fun
  | [d] => { results := [.lit (.bool false)], args := [d] }
  | _ => none }
def FnPartOfPartWrongFalsely : Prop := fnPartOfPartRow.holds Try.pinned (OpenSpec.ofChange fnPartOfPartWrong)

/-- 'laws.FnExactAddBox': WHATEVER THE INPUT: true; the input reads as it did. -/
def fnExactAddBoxSpec : ChangeSpec := { name := "fnExactAddBox", fn := fun _ => fun
  | [d1, d2, d3] => { results := [.lit (.bool true)], args := [d1, d2, d3] }
  | _ => none }
def fnExactAddBoxRow : OpenClaim := { program := "ytgedjpicodjmhaa", sum := "e9abd365af701a3b72e5c5a505cd5ca883ad67a2f044f248f8ba6e0b1887c73c", func := "loop.example/flexlayout/laws.FnExactAddBox", spec := "fnExactAddBox", inPlace := ["slices.overlaps[loop.example/flexlayout/impl.Box]"], recurses := true, apart := false }
def FnExactAddBoxSaid : Prop := fnExactAddBoxRow.holds Try.pinned (OpenSpec.ofChange fnExactAddBoxSpec)

/-- ITS FALSE NEIGHBOUR: 'it returns false'. Refute it at one input. -/
def fnExactAddBoxWrong : ChangeSpec := { name := "fnExactAddBox", fn := fun _ => fun
  | [d1, d2, d3] => { results := [.lit (.bool false)], args := [d1, d2, d3] }
  | _ => none }
def FnExactAddBoxWrongFalsely : Prop := fnExactAddBoxRow.holds Try.pinned (OpenSpec.ofChange fnExactAddBoxWrong)

/-- 'laws.FnExactRemoveBox': WHATEVER THE INPUT: true; the input reads as it did. -/
def fnExactRemoveBoxSpec : ChangeSpec := { name := "fnExactRemoveBox", fn := fun _ => fun
  | [d1, d2] => { results := [.lit (.bool true)], args := [d1, d2] }
  | _ => none }
def fnExactRemoveBoxRow : OpenClaim := { program := "ytgedjpicodjmhaa", sum := "e9abd365af701a3b72e5c5a505cd5ca883ad67a2f044f248f8ba6e0b1887c73c", func := "loop.example/flexlayout/laws.FnExactRemoveBox", spec := "fnExactRemoveBox", recurses := true, apart := false }
def FnExactRemoveBoxSaid : Prop := fnExactRemoveBoxRow.holds Try.pinned (OpenSpec.ofChange fnExactRemoveBoxSpec)

/-- ITS FALSE NEIGHBOUR: 'it returns false'. Refute it at one input. -/
def fnExactRemoveBoxWrong : ChangeSpec := { name := "fnExactRemoveBox", fn := fun _ => fun
  | [d1, d2] => { results := [.lit (.bool false)], args := [d1, d2] }
  | _ => none }
def FnExactRemoveBoxWrongFalsely : Prop := fnExactRemoveBoxRow.holds Try.pinned (OpenSpec.ofChange fnExactRemoveBoxWrong)

/-- 'laws.FnAddBoxLeaf': WHATEVER THE INPUT: true; the input reads as it did. -/
def fnAddBoxLeafSpec : ChangeSpec := { name := "fnAddBoxLeaf", fn := fun _ => fun
  | [d] => { results := [.lit (.bool true)], args := [d] }
  | _ => none }
def fnAddBoxLeafRow : OpenClaim := { program := "ytgedjpicodjmhaa", sum := "e9abd365af701a3b72e5c5a505cd5ca883ad67a2f044f248f8ba6e0b1887c73c", func := "loop.example/flexlayout/laws.FnAddBoxLeaf", spec := "fnAddBoxLeaf", inPlace := ["slices.overlaps[loop.example/flexlayout/impl.Box]"], recurses := true, apart := false }
def FnAddBoxLeafSaid : Prop := fnAddBoxLeafRow.holds Try.pinned (OpenSpec.ofChange fnAddBoxLeafSpec)

/-- ITS FALSE NEIGHBOUR: 'it returns false'. Refute it at one input. -/
def fnAddBoxLeafWrong : ChangeSpec := { name := "fnAddBoxLeaf", fn := fun _ => fun
  | [d] => { results := [.lit (.bool false)], args := [d] }
  | _ => none }
def FnAddBoxLeafWrongFalsely : Prop := fnAddBoxLeafRow.holds Try.pinned (OpenSpec.ofChange fnAddBoxLeafWrong)

/- THE SECOND FORM. 'bulk': how many values and letters a reading holds, each counted each time it is reached (what is shared counts as often as it is met; a slice's spare places count too). A statement '..UptoSaid' is the law's where the arguments, and the package variables that the reading takes, are together of bulk at most 1048576: NARROWER than '..Said'. Prove '..Said' where nothing that the law and all that it calls make is longer than what came in: it says more and counts as full. Else prove '..UptoSaid'. A law counts once. -/
mutual
def uptoBulk {H : Type} : DataW H → Nat
  | .lit (.string bytes) => bytes.length + 1
  | .lit _ => 1
  | .nil => 1
  | .ptr d => uptoBulk d + 1
  | .slice elems spare => uptoBulkAll elems + uptoBulkAll spare + 1
  | .agg parts => uptoBulkAll parts + 1
  | .iface _ d => uptoBulk d + 1
  | .map entries => uptoBulkEntries entries + 1
  | .held _ => 1
def uptoBulkAll {H : Type} : List (DataW H) → Nat
  | [] => 0
  | d :: r => uptoBulk d + uptoBulkAll r
def uptoBulkEntries {H : Type} : List (Lit × DataW H) → Nat
  | [] => 0
  | x :: r => uptoBulkEntry x + uptoBulkEntries r
def uptoBulkEntry {H : Type} : Lit × DataW H → Nat
  | (.string bytes, d) => bytes.length + uptoBulk d + 1
  | (_, d) => uptoBulk d + 1
 end
def uptoSmall : (H : Type) → List (DataW H) → Bool := fun _ ds => decide (uptoBulkAll ds ≤ 1048576)
def OpenSpec.upto (s : _root_.Go.ChangeSpec) : _root_.Go.OpenSpec := { _root_.Go.OpenSpec.ofChange s with cond := some uptoSmall }

/-- 'laws.FnPartOfPart', WHERE WHAT IT READS IS OF BULK AT MOST 1048576: true; the input reads as it did. -/
def fnPartOfPartUptoRow : OpenClaim := { program := "ytgedjpicodjmhaa", sum := "e9abd365af701a3b72e5c5a505cd5ca883ad67a2f044f248f8ba6e0b1887c73c", func := "loop.example/flexlayout/laws.FnPartOfPart", spec := "fnPartOfPart", recurses := true, apart := false, narrowed := true }
def FnPartOfPartUptoSaid : Prop := fnPartOfPartUptoRow.holds Try.pinned (OpenSpec.upto fnPartOfPartSpec)

/-- 'laws.FnExactAddBox', WHERE WHAT IT READS IS OF BULK AT MOST 1048576: true; the input reads as it did. -/
def fnExactAddBoxUptoRow : OpenClaim := { program := "ytgedjpicodjmhaa", sum := "e9abd365af701a3b72e5c5a505cd5ca883ad67a2f044f248f8ba6e0b1887c73c", func := "loop.example/flexlayout/laws.FnExactAddBox", spec := "fnExactAddBox", inPlace := ["slices.overlaps[loop.example/flexlayout/impl.Box]"], recurses := true, apart := false, narrowed := true }
def FnExactAddBoxUptoSaid : Prop := fnExactAddBoxUptoRow.holds Try.pinned (OpenSpec.upto fnExactAddBoxSpec)

/-- 'laws.FnExactRemoveBox', WHERE WHAT IT READS IS OF BULK AT MOST 1048576: true; the input reads as it did. -/
def fnExactRemoveBoxUptoRow : OpenClaim := { program := "ytgedjpicodjmhaa", sum := "e9abd365af701a3b72e5c5a505cd5ca883ad67a2f044f248f8ba6e0b1887c73c", func := "loop.example/flexlayout/laws.FnExactRemoveBox", spec := "fnExactRemoveBox", recurses := true, apart := false, narrowed := true }
def FnExactRemoveBoxUptoSaid : Prop := fnExactRemoveBoxUptoRow.holds Try.pinned (OpenSpec.upto fnExactRemoveBoxSpec)

/-- 'laws.FnAddBoxLeaf', WHERE WHAT IT READS IS OF BULK AT MOST 1048576: true; the input reads as it did. -/
def fnAddBoxLeafUptoRow : OpenClaim := { program := "ytgedjpicodjmhaa", sum := "e9abd365af701a3b72e5c5a505cd5ca883ad67a2f044f248f8ba6e0b1887c73c", func := "loop.example/flexlayout/laws.FnAddBoxLeaf", spec := "fnAddBoxLeaf", inPlace := ["slices.overlaps[loop.example/flexlayout/impl.Box]"], recurses := true, apart := false, narrowed := true }
def FnAddBoxLeafUptoSaid : Prop := fnAddBoxLeafUptoRow.holds Try.pinned (OpenSpec.upto fnAddBoxLeafSpec)

end Rows
end Go.Proofs.Ytgedjpicodjmhaa
