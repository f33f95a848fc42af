/-
  No cell of these rows narrows 'for every input' (looked for: loops, veiled, ifaces, maps, wideKeys, modest, calm, conditions, laid).
  DERIVED. THE GIVEN ROWS OF THIS SEAT. 11 by the template 'for every input the law returns true; each argument reads behind the call as it read before'; 0 by the template 'total and deterministic' (their statements: YtkaagpfgpacfcaaTotals.lean).
  GIVEN WITH THE SEED: the statements are not yours to turn. If you find one false, say at which input.
  Laid BY PROGRAM, IN A SANDBOX (cutbox-rows.mjs): the forced cells as the released guide's own fill.sh prints them over the translation f2621485da96bfa9… (all of the seat's roots in one cut). By AI agents, Wed Nov 11 2026. No macro, syntax, notation, axiom, sorry.
-/
import Derived.Test.YtkaagpfgpacfcaaChecked
import GoSem.Claim
import GoSem.ClaimJoined
import GoSem.ClaimMapViews
import Derived.JoinedTies
import Derived.KernelRfl
namespace Go.Proofs.Ytkaagpfgpacfcaa
/- THE CELL 'sum', in the pinned program and in every row, IS THE sha256 OF THE DUMP (.gsa) THAT YtkaagpfgpacfcaaProg.lean LOADS. Nothing in Lean hashes anything: it is a label: what it is worth is what the hold of that sum in a sandbox is worth. -/
noncomputable def Try.pinned : Pinned := { name := "ytkaagpfgpacfcaa", sum := "f2621485da96bfa91a16f1f3b574582e6bfa59ecb96168eed1e2b4f9e7101249", checked := Try.checked }
namespace Rows
def none {H : Type} : Left H := { results := [], args := [] }

/-- 'laws.FnFinishFramesSlices': WHATEVER THE INPUT: true; the input reads as it did. -/
def fnFinishFramesSlicesSpec : ChangeSpec := { name := "fnFinishFramesSlices", fn := fun _ => fun
  | [d] => { results := [.lit (.bool true)], args := [d] }
  | _ => none }
def fnFinishFramesSlicesRow : OpenClaim := { program := "ytkaagpfgpacfcaa", sum := "f2621485da96bfa91a16f1f3b574582e6bfa59ecb96168eed1e2b4f9e7101249", func := "loop.example/flexlayout/laws.FnFinishFramesSlices", spec := "fnFinishFramesSlices", apart := false }
def FnFinishFramesSlicesSaid : Prop := fnFinishFramesSlicesRow.holds Try.pinned (OpenSpec.ofChange fnFinishFramesSlicesSpec)

/-- ITS FALSE NEIGHBOUR: 'it returns false'. Refute it at one input. -/
def fnFinishFramesSlicesWrong : ChangeSpec := { name := "fnFinishFramesSlices", fn := fun _ => fun
  | [d] => { results := [.lit (.bool false)], args := [d] }
  | _ => none }
def FnFinishFramesSlicesWrongFalsely : Prop := fnFinishFramesSlicesRow.holds Try.pinned (OpenSpec.ofChange fnFinishFramesSlicesWrong)

/-- 'laws.FnLayoutRootKid': WHATEVER THE INPUT: true; the input reads as it did. -/
def fnLayoutRootKidSpec : ChangeSpec := { name := "fnLayoutRootKid", fn := fun _ => fun
  | [d] => { results := [.lit (.bool true)], args := [d] }
  | _ => none }
def fnLayoutRootKidRow : OpenClaim := { program := "ytkaagpfgpacfcaa", sum := "f2621485da96bfa91a16f1f3b574582e6bfa59ecb96168eed1e2b4f9e7101249", func := "loop.example/flexlayout/laws.FnLayoutRootKid", spec := "fnLayoutRootKid", apart := false }
def FnLayoutRootKidSaid : Prop := fnLayoutRootKidRow.holds Try.pinned (OpenSpec.ofChange fnLayoutRootKidSpec)

/-- ITS FALSE NEIGHBOUR: 'it returns false'. Refute it at one input. -/
def fnLayoutRootKidWrong : ChangeSpec := { name := "fnLayoutRootKid", fn := fun _ => fun
  | [d] => { results := [.lit (.bool false)], args := [d] }
  | _ => none }
def FnLayoutRootKidWrongFalsely : Prop := fnLayoutRootKidRow.holds Try.pinned (OpenSpec.ofChange fnLayoutRootKidWrong)

/-- 'laws.FnCleanBoxAll': WHATEVER THE INPUT: true; the input reads as it did. -/
def fnCleanBoxAllSpec : ChangeSpec := { name := "fnCleanBoxAll", fn := fun _ => fun
  | [d] => { results := [.lit (.bool true)], args := [d] }
  | _ => none }
def fnCleanBoxAllRow : OpenClaim := { program := "ytkaagpfgpacfcaa", sum := "f2621485da96bfa91a16f1f3b574582e6bfa59ecb96168eed1e2b4f9e7101249", func := "loop.example/flexlayout/laws.FnCleanBoxAll", spec := "fnCleanBoxAll", unfollowed := true, recurses := true, apart := false }
def FnCleanBoxAllSaid : Prop := fnCleanBoxAllRow.holds Try.pinned (OpenSpec.ofChange fnCleanBoxAllSpec)

/-- ITS FALSE NEIGHBOUR: 'it returns false'. Refute it at one input. -/
def fnCleanBoxAllWrong : ChangeSpec := { name := "fnCleanBoxAll", fn := fun _ => fun
  | [d] => { results := [.lit (.bool false)], args := [d] }
  | _ => none }
def FnCleanBoxAllWrongFalsely : Prop := fnCleanBoxAllRow.holds Try.pinned (OpenSpec.ofChange fnCleanBoxAllWrong)

/-- 'laws.FnExactAddBox': WHATEVER THE INPUT: true; the input reads as it did. -/
def fnExactAddBoxSpec : ChangeSpec := { name := "fnExactAddBox", fn := fun _ => fun
  | [d1, d2, d3] => { results := [.lit (.bool true)], args := [d1, d2, d3] }
  | _ => none }
def fnExactAddBoxRow : OpenClaim := { program := "ytkaagpfgpacfcaa", sum := "f2621485da96bfa91a16f1f3b574582e6bfa59ecb96168eed1e2b4f9e7101249", func := "loop.example/flexlayout/laws.FnExactAddBox", spec := "fnExactAddBox", inPlace := ["slices.overlaps[loop.example/flexlayout/impl.Box]"], recurses := true, apart := false }
def FnExactAddBoxSaid : Prop := fnExactAddBoxRow.holds Try.pinned (OpenSpec.ofChange fnExactAddBoxSpec)

/-- ITS FALSE NEIGHBOUR: 'it returns false'. Refute it at one input. -/
def fnExactAddBoxWrong : ChangeSpec := { name := "fnExactAddBox", fn := fun _ => fun
  | [d1, d2, d3] => { results := [.lit (.bool false)], args := [d1, d2, d3] }
  | _ => none }
def FnExactAddBoxWrongFalsely : Prop := fnExactAddBoxRow.holds Try.pinned (OpenSpec.ofChange fnExactAddBoxWrong)

/-- 'laws.FnExactRemoveBox': WHATEVER THE INPUT: true; the input reads as it did. -/
def fnExactRemoveBoxSpec : ChangeSpec := { name := "fnExactRemoveBox", fn := fun _ => fun
  | [d1, d2] => { results := [.lit (.bool true)], args := [d1, d2] }
  | _ => none }
def fnExactRemoveBoxRow : OpenClaim := { program := "ytkaagpfgpacfcaa", sum := "f2621485da96bfa91a16f1f3b574582e6bfa59ecb96168eed1e2b4f9e7101249", func := "loop.example/flexlayout/laws.FnExactRemoveBox", spec := "fnExactRemoveBox", recurses := true, apart := false }
def FnExactRemoveBoxSaid : Prop := fnExactRemoveBoxRow.holds Try.pinned (OpenSpec.ofChange fnExactRemoveBoxSpec)

/-- ITS FALSE NEIGHBOUR: 'it returns false'. Refute it at one input. -/
def fnExactRemoveBoxWrong : ChangeSpec := { name := "fnExactRemoveBox", fn := fun _ => fun
  | [d1, d2] => { results := [.lit (.bool false)], args := [d1, d2] }
  | _ => none }
def FnExactRemoveBoxWrongFalsely : Prop := fnExactRemoveBoxRow.holds Try.pinned (OpenSpec.ofChange fnExactRemoveBoxWrong)

/-- 'laws.FnExactPartOf': WHATEVER THE INPUT: true; the input reads as it did. -/
def fnExactPartOfSpec : ChangeSpec := { name := "fnExactPartOf", fn := fun _ => fun
  | [d1, d2] => { results := [.lit (.bool true)], args := [d1, d2] }
  | _ => none }
def fnExactPartOfRow : OpenClaim := { program := "ytkaagpfgpacfcaa", sum := "f2621485da96bfa91a16f1f3b574582e6bfa59ecb96168eed1e2b4f9e7101249", func := "loop.example/flexlayout/laws.FnExactPartOf", spec := "fnExactPartOf", recurses := true, apart := false }
def FnExactPartOfSaid : Prop := fnExactPartOfRow.holds Try.pinned (OpenSpec.ofChange fnExactPartOfSpec)

/-- ITS FALSE NEIGHBOUR: 'it returns false'. Refute it at one input. -/
def fnExactPartOfWrong : ChangeSpec := { name := "fnExactPartOf", fn := fun _ => fun
  | [d1, d2] => { results := [.lit (.bool false)], args := [d1, d2] }
  | _ => none }
def FnExactPartOfWrongFalsely : Prop := fnExactPartOfRow.holds Try.pinned (OpenSpec.ofChange fnExactPartOfWrong)

/-- 'laws.FnExactStyleBox': WHATEVER THE INPUT: true; the input reads as it did. -/
def fnExactStyleBoxSpec : ChangeSpec := { name := "fnExactStyleBox", fn := fun _ => fun
  | [d1, d2, d3] => { results := [.lit (.bool true)], args := [d1, d2, d3] }
  | _ => none }
def fnExactStyleBoxRow : OpenClaim := { program := "ytkaagpfgpacfcaa", sum := "f2621485da96bfa91a16f1f3b574582e6bfa59ecb96168eed1e2b4f9e7101249", func := "loop.example/flexlayout/laws.FnExactStyleBox", spec := "fnExactStyleBox", apart := false }
def FnExactStyleBoxSaid : Prop := fnExactStyleBoxRow.holds Try.pinned (OpenSpec.ofChange fnExactStyleBoxSpec)

/-- ITS FALSE NEIGHBOUR: 'it returns false'. Refute it at one input. -/
def fnExactStyleBoxWrong : ChangeSpec := { name := "fnExactStyleBox", fn := fun _ => fun
  | [d1, d2, d3] => { results := [.lit (.bool false)], args := [d1, d2, d3] }
  | _ => none }
def FnExactStyleBoxWrongFalsely : Prop := fnExactStyleBoxRow.holds Try.pinned (OpenSpec.ofChange fnExactStyleBoxWrong)

/-- 'laws.FnPartOf': WHATEVER THE INPUT: true; the input reads as it did. -/
def fnPartOfSpec : ChangeSpec := { name := "fnPartOf", fn := fun _ => fun
  | [d] => { results := [.lit (.bool true)], args := [d] }
  | _ => none }
def fnPartOfRow : OpenClaim := { program := "ytkaagpfgpacfcaa", sum := "f2621485da96bfa91a16f1f3b574582e6bfa59ecb96168eed1e2b4f9e7101249", func := "loop.example/flexlayout/laws.FnPartOf", spec := "fnPartOf", recurses := true, apart := false }
def FnPartOfSaid : Prop := fnPartOfRow.holds Try.pinned (OpenSpec.ofChange fnPartOfSpec)

/-- ITS FALSE NEIGHBOUR: 'it returns false'. Refute it at one input. -/
def fnPartOfWrong : ChangeSpec := { name := "fnPartOf", fn := fun _ => fun
  | [d] => { results := [.lit (.bool false)], args := [d] }
  | _ => none }
def FnPartOfWrongFalsely : Prop := fnPartOfRow.holds Try.pinned (OpenSpec.ofChange fnPartOfWrong)

/-- 'laws.FnStyleBoxSame': WHATEVER THE INPUT: true; the input reads as it did. -/
def fnStyleBoxSameSpec : ChangeSpec := { name := "fnStyleBoxSame", fn := fun _ => fun
  | [d] => { results := [.lit (.bool true)], args := [d] }
  | _ => none }
def fnStyleBoxSameRow : OpenClaim := { program := "ytkaagpfgpacfcaa", sum := "f2621485da96bfa91a16f1f3b574582e6bfa59ecb96168eed1e2b4f9e7101249", func := "loop.example/flexlayout/laws.FnStyleBoxSame", spec := "fnStyleBoxSame", apart := false }
def FnStyleBoxSameSaid : Prop := fnStyleBoxSameRow.holds Try.pinned (OpenSpec.ofChange fnStyleBoxSameSpec)

/-- ITS FALSE NEIGHBOUR: 'it returns false'. Refute it at one input. -/
def fnStyleBoxSameWrong : ChangeSpec := { name := "fnStyleBoxSame", fn := fun _ => fun
  | [d] => { results := [.lit (.bool false)], args := [d] }
  | _ => none }
def FnStyleBoxSameWrongFalsely : Prop := fnStyleBoxSameRow.holds Try.pinned (OpenSpec.ofChange fnStyleBoxSameWrong)

/-- 'laws.FnStyleBox': WHATEVER THE INPUT: true; the input reads as it did. -/
def fnStyleBoxSpec : ChangeSpec := { name := "fnStyleBox", fn := fun _ => fun
  | [d] => { results := [.lit (.bool true)], args := [d] }
  | _ => none }
def fnStyleBoxRow : OpenClaim := { program := "ytkaagpfgpacfcaa", sum := "f2621485da96bfa91a16f1f3b574582e6bfa59ecb96168eed1e2b4f9e7101249", func := "loop.example/flexlayout/laws.FnStyleBox", spec := "fnStyleBox", apart := false }
def FnStyleBoxSaid : Prop := fnStyleBoxRow.holds Try.pinned (OpenSpec.ofChange fnStyleBoxSpec)

/-- ITS FALSE NEIGHBOUR: 'it returns false'. Refute it at one input. -/
def fnStyleBoxWrong : ChangeSpec := { name := "fnStyleBox", fn := fun _ => fun
  | [d] => { results := [.lit (.bool false)], args := [d] }
  | _ => none }
def FnStyleBoxWrongFalsely : Prop := fnStyleBoxRow.holds Try.pinned (OpenSpec.ofChange fnStyleBoxWrong)

/-- 'laws.FnAddBoxLeaf': WHATEVER THE INPUT: true; the input reads as it did. -/
def fnAddBoxLeafSpec : ChangeSpec := { name := "fnAddBoxLeaf", fn := fun _ => fun
  | [d] => { results := [.lit (.bool true)], args := [d] }
  | _ => none }
def fnAddBoxLeafRow : OpenClaim := { program := "ytkaagpfgpacfcaa", sum := "f2621485da96bfa91a16f1f3b574582e6bfa59ecb96168eed1e2b4f9e7101249", func := "loop.example/flexlayout/laws.FnAddBoxLeaf", spec := "fnAddBoxLeaf", inPlace := ["slices.overlaps[loop.example/flexlayout/impl.Box]"], recurses := true, apart := false }
def FnAddBoxLeafSaid : Prop := fnAddBoxLeafRow.holds Try.pinned (OpenSpec.ofChange fnAddBoxLeafSpec)

/-- ITS FALSE NEIGHBOUR: 'it returns false'. Refute it at one input. -/
def fnAddBoxLeafWrong : ChangeSpec := { name := "fnAddBoxLeaf", fn := fun _ => fun
  | [d] => { results := [.lit (.bool false)], args := [d] }
  | _ => none }
def FnAddBoxLeafWrongFalsely : Prop := fnAddBoxLeafRow.holds Try.pinned (OpenSpec.ofChange fnAddBoxLeafWrong)

/- THE SECOND FORM. 'bulk': how many values and letters a reading holds, each counted each time it is reached (what is shared counts as often as it is met; a slice's spare places count too). A statement '..UptoSaid' is the law's where the arguments, and the package variables that the reading takes, are together of bulk at most 1048576: NARROWER than '..Said'. Prove '..Said' where nothing that the law and all that it calls make is longer than what came in: it says more and counts as full. Else prove '..UptoSaid'. A law counts once. -/
mutual
def uptoBulk {H : Type} : DataW H → Nat
  | .lit (.string bytes) => bytes.length + 1
  | .lit _ => 1
  | .nil => 1
  | .ptr d => uptoBulk d + 1
  | .slice elems spare => uptoBulkAll elems + uptoBulkAll spare + 1
  | .agg parts => uptoBulkAll parts + 1
  | .iface _ d => uptoBulk d + 1
  | .map entries => uptoBulkEntries entries + 1
  | .held _ => 1
def uptoBulkAll {H : Type} : List (DataW H) → Nat
  | [] => 0
  | d :: r => uptoBulk d + uptoBulkAll r
def uptoBulkEntries {H : Type} : List (Lit × DataW H) → Nat
  | [] => 0
  | x :: r => uptoBulkEntry x + uptoBulkEntries r
def uptoBulkEntry {H : Type} : Lit × DataW H → Nat
  | (.string bytes, d) => bytes.length + uptoBulk d + 1
  | (_, d) => uptoBulk d + 1
 end
def uptoSmall : (H : Type) → List (DataW H) → Bool := fun _ ds => decide (uptoBulkAll ds ≤ 1048576)
def OpenSpec.upto (s : _root_.Go.ChangeSpec) : _root_.Go.OpenSpec := { _root_.Go.OpenSpec.ofChange s with cond := some uptoSmall }

/-- 'laws.FnFinishFramesSlices', WHERE WHAT IT READS IS OF BULK AT MOST 1048576: true; the input reads as it did. -/
def fnFinishFramesSlicesUptoRow : OpenClaim := { program := "ytkaagpfgpacfcaa", sum := "f2621485da96bfa91a16f1f3b574582e6bfa59ecb96168eed1e2b4f9e7101249", func := "loop.example/flexlayout/laws.FnFinishFramesSlices", spec := "fnFinishFramesSlices", apart := false, narrowed := true }
def FnFinishFramesSlicesUptoSaid : Prop := fnFinishFramesSlicesUptoRow.holds Try.pinned (OpenSpec.upto fnFinishFramesSlicesSpec)

/-- 'laws.FnLayoutRootKid', WHERE WHAT IT READS IS OF BULK AT MOST 1048576: true; the input reads as it did. -/
def fnLayoutRootKidUptoRow : OpenClaim := { program := "ytkaagpfgpacfcaa", sum := "f2621485da96bfa91a16f1f3b574582e6bfa59ecb96168eed1e2b4f9e7101249", func := "loop.example/flexlayout/laws.FnLayoutRootKid", spec := "fnLayoutRootKid", apart := false, narrowed := true }
def FnLayoutRootKidUptoSaid : Prop := fnLayoutRootKidUptoRow.holds Try.pinned (OpenSpec.upto fnLayoutRootKidSpec)

/-- 'laws.FnCleanBoxAll', WHERE WHAT IT READS IS OF BULK AT MOST 1048576: true; the input reads as it did. -/
def fnCleanBoxAllUptoRow : OpenClaim := { program := "ytkaagpfgpacfcaa", sum := "f2621485da96bfa91a16f1f3b574582e6bfa59ecb96168eed1e2b4f9e7101249", func := "loop.example/flexlayout/laws.FnCleanBoxAll", spec := "fnCleanBoxAll", unfollowed := true, recurses := true, apart := false, narrowed := true }
def FnCleanBoxAllUptoSaid : Prop := fnCleanBoxAllUptoRow.holds Try.pinned (OpenSpec.upto fnCleanBoxAllSpec)

/-- 'laws.FnExactAddBox', WHERE WHAT IT READS IS OF BULK AT MOST 1048576: true; the input reads as it did. -/
def fnExactAddBoxUptoRow : OpenClaim := { program := "ytkaagpfgpacfcaa", sum := "f2621485da96bfa91a16f1f3b574582e6bfa59ecb96168eed1e2b4f9e7101249", func := "loop.example/flexlayout/laws.FnExactAddBox", spec := "fnExactAddBox", inPlace := ["slices.overlaps[loop.example/flexlayout/impl.Box]"], recurses := true, apart := false, narrowed := true }
def FnExactAddBoxUptoSaid : Prop := fnExactAddBoxUptoRow.holds Try.pinned (OpenSpec.upto fnExactAddBoxSpec)

/-- 'laws.FnExactRemoveBox', WHERE WHAT IT READS IS OF BULK AT MOST 1048576: true; the input reads as it did. -/
def fnExactRemoveBoxUptoRow : OpenClaim := { program := "ytkaagpfgpacfcaa", sum := "f2621485da96bfa91a16f1f3b574582e6bfa59ecb96168eed1e2b4f9e7101249", func := "loop.example/flexlayout/laws.FnExactRemoveBox", spec := "fnExactRemoveBox", recurses := true, apart := false, narrowed := true }
def FnExactRemoveBoxUptoSaid : Prop := fnExactRemoveBoxUptoRow.holds Try.pinned (OpenSpec.upto fnExactRemoveBoxSpec)

/-- 'laws.FnExactPartOf', WHERE WHAT IT READS IS OF BULK AT MOST 1048576: true; the input reads as it did. -/
def fnExactPartOfUptoRow : OpenClaim := { program := "ytkaagpfgpacfcaa", sum := "f2621485da96bfa91a16f1f3b574582e6bfa59ecb96168eed1e2b4f9e7101249", func := "loop.example/flexlayout/laws.FnExactPartOf", spec := "fnExactPartOf", recurses := true, apart := false, narrowed := true }
def FnExactPartOfUptoSaid : Prop := fnExactPartOfUptoRow.holds Try.pinned (OpenSpec.upto fnExactPartOfSpec)

/-- 'laws.FnExactStyleBox', WHERE WHAT IT READS IS OF BULK AT MOST 1048576: true; the input reads as it did. -/
def fnExactStyleBoxUptoRow : OpenClaim := { program := "ytkaagpfgpacfcaa", sum := "f2621485da96bfa91a16f1f3b574582e6bfa59ecb96168eed1e2b4f9e7101249", func := "loop.example/flexlayout/laws.FnExactStyleBox", spec := "fnExactStyleBox", apart := false, narrowed := true }
def FnExactStyleBoxUptoSaid : Prop := fnExactStyleBoxUptoRow.holds Try.pinned (OpenSpec.upto fnExactStyleBoxSpec)

/-- 'laws.FnPartOf', WHERE WHAT IT READS IS OF BULK AT MOST 1048576: true; the input reads as it did. -/
def fnPartOfUptoRow : OpenClaim := { program := "ytkaagpfgpacfcaa", sum := "f2621485da96bfa91a16f1f3b574582e6bfa59ecb96168eed1e2b4f9e7101249", func := "loop.example/flexlayout/laws.FnPartOf", spec := "fnPartOf", recurses := true, apart := false, narrowed := true }
def FnPartOfUptoSaid : Prop := fnPartOfUptoRow.holds Try.pinned (OpenSpec.upto fnPartOfSpec)

/-- 'laws.FnStyleBoxSame', WHERE WHAT IT READS IS OF BULK AT MOST 1048576: true; the input reads as it did. -/
def fnStyleBoxSameUptoRow : OpenClaim := { program := "ytkaagpfgpacfcaa", sum := "f2621485da96bfa91a16f1f3b574582e6bfa59ecb96168eed1e2b4f9e7101249", func := "loop.example/flexlayout/laws.FnStyleBoxSame", spec := "fnStyleBoxSame", apart := false, narrowed := true }
def FnStyleBoxSameUptoSaid : Prop := fnStyleBoxSameUptoRow.holds Try.pinned (OpenSpec.upto fnStyleBoxSameSpec)

/-- 'laws.FnStyleBox', WHERE WHAT IT READS IS OF BULK AT MOST 1048576: true; the input reads as it did. -/
def fnStyleBoxUptoRow : OpenClaim := { program := "ytkaagpfgpacfcaa", sum := "f2621485da96bfa91a16f1f3b574582e6bfa59ecb96168eed1e2b4f9e7101249", func := "loop.example/flexlayout/laws.FnStyleBox", spec := "fnStyleBox", apart := false, narrowed := true }
def FnStyleBoxUptoSaid : Prop := fnStyleBoxUptoRow.holds Try.pinned (OpenSpec.upto fnStyleBoxSpec)

/-- 'laws.FnAddBoxLeaf', WHERE WHAT IT READS IS OF BULK AT MOST 1048576: true; the input reads as it did. -/
def fnAddBoxLeafUptoRow : OpenClaim := { program := "ytkaagpfgpacfcaa", sum := "f2621485da96bfa91a16f1f3b574582e6bfa59ecb96168eed1e2b4f9e7101249", func := "loop.example/flexlayout/laws.FnAddBoxLeaf", spec := "fnAddBoxLeaf", inPlace := ["slices.overlaps[loop.example/flexlayout/impl.Box]"], recurses := true, apart := false, narrowed := true }
def FnAddBoxLeafUptoSaid : Prop := fnAddBoxLeafUptoRow.holds Try.pinned (OpenSpec.upto fnAddBoxLeafSpec)

end Rows
end Go.Proofs.Ytkaagpfgpacfcaa
