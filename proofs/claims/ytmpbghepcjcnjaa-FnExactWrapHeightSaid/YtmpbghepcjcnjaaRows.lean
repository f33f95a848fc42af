/-
  No cell of these rows narrows 'for every input' (looked for: loops, veiled, ifaces, maps, wideKeys, modest, calm, conditions, laid).
  DERIVED. THE GIVEN ROWS OF THIS SEAT. 12 by the template 'for every input the law returns true; each argument reads behind the call as it read before'; 0 by the template 'total and deterministic' (their statements: YtmpbghepcjcnjaaTotals.lean).
  GIVEN WITH THE SEED: the statements are not yours to turn. If you find one false, say at which input.
  Laid BY PROGRAM, IN A SANDBOX (cutbox-rows.mjs): the forced cells as the released guide's own fill.sh prints them over the translation 2a7ee234d2b482d3… (all of the seat's roots in one cut). By AI agents, Wed Nov 11 2026. No macro, syntax, notation, axiom, sorry.
-/
import Derived.Test.YtmpbghepcjcnjaaChecked
import GoSem.Claim
import GoSem.ClaimJoined
import GoSem.ClaimMapViews
import Derived.JoinedTies
import Derived.KernelRfl
namespace Go.Proofs.Ytmpbghepcjcnjaa
/- THE CELL 'sum', in the pinned program and in every row, IS THE sha256 OF THE DUMP (.gsa) THAT YtmpbghepcjcnjaaProg.lean LOADS. Nothing in Lean hashes anything: it is a label: what it is worth is what the hold of that sum in a sandbox is worth. -/
noncomputable def Try.pinned : Pinned := { name := "ytmpbghepcjcnjaa", sum := "2a7ee234d2b482d3d0ce7252834fbe0d316d0e055dc0208e15c4ae9d4755dd90", checked := Try.checked }
namespace Rows
def none {H : Type} : Left H := { results := [], args := [] }

/-- 'laws.FnExactValidTracks': WHATEVER THE INPUT: true; the input reads as it did. -/
def fnExactValidTracksSpec : ChangeSpec := { name := "fnExactValidTracks", fn := fun _ => fun
  | [d] => { results := [.lit (.bool true)], args := [d] }
  | _ => none }
def fnExactValidTracksRow : OpenClaim := { program := "ytmpbghepcjcnjaa", sum := "2a7ee234d2b482d3d0ce7252834fbe0d316d0e055dc0208e15c4ae9d4755dd90", func := "loop.example/flexlayout/laws.FnExactValidTracks", spec := "fnExactValidTracks", apart := false }
def FnExactValidTracksSaid : Prop := fnExactValidTracksRow.holds Try.pinned (OpenSpec.ofChange fnExactValidTracksSpec)

/-- ITS FALSE NEIGHBOUR: 'it returns false'. Refute it at one input. -/
def fnExactValidTracksWrong : ChangeSpec := { name := "fnExactValidTracks", fn := fun _ => fun
  | [d] => { results := [.lit (.bool false)], args := [d] }
  | _ => none }
def FnExactValidTracksWrongFalsely : Prop := fnExactValidTracksRow.holds Try.pinned (OpenSpec.ofChange fnExactValidTracksWrong)

/-- 'laws.FnExactTrackSizes': WHATEVER THE INPUT: true; the input reads as it did. -/
def fnExactTrackSizesSpec : ChangeSpec := { name := "fnExactTrackSizes", fn := fun _ => fun
  | [d1, d2, d3] => { results := [.lit (.bool true)], args := [d1, d2, d3] }
  | _ => none }
def fnExactTrackSizesRow : OpenClaim := { program := "ytmpbghepcjcnjaa", sum := "2a7ee234d2b482d3d0ce7252834fbe0d316d0e055dc0208e15c4ae9d4755dd90", func := "loop.example/flexlayout/laws.FnExactTrackSizes", spec := "fnExactTrackSizes", unfollowed := true, recurses := true, apart := false }
def FnExactTrackSizesSaid : Prop := fnExactTrackSizesRow.holds Try.pinned (OpenSpec.ofChange fnExactTrackSizesSpec)

/-- ITS FALSE NEIGHBOUR: 'it returns false'. Refute it at one input. -/
def fnExactTrackSizesWrong : ChangeSpec := { name := "fnExactTrackSizes", fn := fun _ => fun
  | [d1, d2, d3] => { results := [.lit (.bool false)], args := [d1, d2, d3] }
  | _ => none }
def FnExactTrackSizesWrongFalsely : Prop := fnExactTrackSizesRow.holds Try.pinned (OpenSpec.ofChange fnExactTrackSizesWrong)

/-- 'laws.FnExactSpanOf': WHATEVER THE INPUT: true; the input reads as it did. -/
def fnExactSpanOfSpec : ChangeSpec := { name := "fnExactSpanOf", fn := fun _ => fun
  | [d1, d2, d3, d4, d5] => { results := [.lit (.bool true)], args := [d1, d2, d3, d4, d5] }
  | _ => none }
def fnExactSpanOfRow : OpenClaim := { program := "ytmpbghepcjcnjaa", sum := "2a7ee234d2b482d3d0ce7252834fbe0d316d0e055dc0208e15c4ae9d4755dd90", func := "loop.example/flexlayout/laws.FnExactSpanOf", spec := "fnExactSpanOf", unfollowed := true, recurses := true, apart := false }
def FnExactSpanOfSaid : Prop := fnExactSpanOfRow.holds Try.pinned (OpenSpec.ofChange fnExactSpanOfSpec)

/-- ITS FALSE NEIGHBOUR: 'it returns false'. Refute it at one input. -/
def fnExactSpanOfWrong : ChangeSpec := { name := "fnExactSpanOf", fn := fun _ => fun
  | [d1, d2, d3, d4, d5] => { results := [.lit (.bool false)], args := [d1, d2, d3, d4, d5] }
  | _ => none }
def FnExactSpanOfWrongFalsely : Prop := fnExactSpanOfRow.holds Try.pinned (OpenSpec.ofChange fnExactSpanOfWrong)

/-- 'laws.FnExactAutoPlaces': WHATEVER THE INPUT: true; the input reads as it did. -/
def fnExactAutoPlacesSpec : ChangeSpec := { name := "fnExactAutoPlaces", fn := fun _ => fun
  | [d1, d2] => { results := [.lit (.bool true)], args := [d1, d2] }
  | _ => none }
def fnExactAutoPlacesRow : OpenClaim := { program := "ytmpbghepcjcnjaa", sum := "2a7ee234d2b482d3d0ce7252834fbe0d316d0e055dc0208e15c4ae9d4755dd90", func := "loop.example/flexlayout/laws.FnExactAutoPlaces", spec := "fnExactAutoPlaces", apart := false }
def FnExactAutoPlacesSaid : Prop := fnExactAutoPlacesRow.holds Try.pinned (OpenSpec.ofChange fnExactAutoPlacesSpec)

/-- ITS FALSE NEIGHBOUR: 'it returns false'. Refute it at one input. -/
def fnExactAutoPlacesWrong : ChangeSpec := { name := "fnExactAutoPlaces", fn := fun _ => fun
  | [d1, d2] => { results := [.lit (.bool false)], args := [d1, d2] }
  | _ => none }
def FnExactAutoPlacesWrongFalsely : Prop := fnExactAutoPlacesRow.holds Try.pinned (OpenSpec.ofChange fnExactAutoPlacesWrong)

/-- 'laws.FnExactRowsUsed': WHATEVER THE INPUT: true; the input reads as it did. -/
def fnExactRowsUsedSpec : ChangeSpec := { name := "fnExactRowsUsed", fn := fun _ => fun
  | [d1, d2] => { results := [.lit (.bool true)], args := [d1, d2] }
  | _ => none }
def fnExactRowsUsedRow : OpenClaim := { program := "ytmpbghepcjcnjaa", sum := "2a7ee234d2b482d3d0ce7252834fbe0d316d0e055dc0208e15c4ae9d4755dd90", func := "loop.example/flexlayout/laws.FnExactRowsUsed", spec := "fnExactRowsUsed", apart := false }
def FnExactRowsUsedSaid : Prop := fnExactRowsUsedRow.holds Try.pinned (OpenSpec.ofChange fnExactRowsUsedSpec)

/-- ITS FALSE NEIGHBOUR: 'it returns false'. Refute it at one input. -/
def fnExactRowsUsedWrong : ChangeSpec := { name := "fnExactRowsUsed", fn := fun _ => fun
  | [d1, d2] => { results := [.lit (.bool false)], args := [d1, d2] }
  | _ => none }
def FnExactRowsUsedWrongFalsely : Prop := fnExactRowsUsedRow.holds Try.pinned (OpenSpec.ofChange fnExactRowsUsedWrong)

/-- 'laws.FnExactValidParts': WHATEVER THE INPUT: true; the input reads as it did. -/
def fnExactValidPartsSpec : ChangeSpec := { name := "fnExactValidParts", fn := fun _ => fun
  | [d] => { results := [.lit (.bool true)], args := [d] }
  | _ => none }
def fnExactValidPartsRow : OpenClaim := { program := "ytmpbghepcjcnjaa", sum := "2a7ee234d2b482d3d0ce7252834fbe0d316d0e055dc0208e15c4ae9d4755dd90", func := "loop.example/flexlayout/laws.FnExactValidParts", spec := "fnExactValidParts", apart := false }
def FnExactValidPartsSaid : Prop := fnExactValidPartsRow.holds Try.pinned (OpenSpec.ofChange fnExactValidPartsSpec)

/-- ITS FALSE NEIGHBOUR: 'it returns false'. Refute it at one input. -/
def fnExactValidPartsWrong : ChangeSpec := { name := "fnExactValidParts", fn := fun _ => fun
  | [d] => { results := [.lit (.bool false)], args := [d] }
  | _ => none }
def FnExactValidPartsWrongFalsely : Prop := fnExactValidPartsRow.holds Try.pinned (OpenSpec.ofChange fnExactValidPartsWrong)

/-- 'laws.FnExactLineCounts': WHATEVER THE INPUT: true; the input reads as it did. -/
def fnExactLineCountsSpec : ChangeSpec := { name := "fnExactLineCounts", fn := fun _ => fun
  | [d1, d2, d3] => { results := [.lit (.bool true)], args := [d1, d2, d3] }
  | _ => none }
def fnExactLineCountsRow : OpenClaim := { program := "ytmpbghepcjcnjaa", sum := "2a7ee234d2b482d3d0ce7252834fbe0d316d0e055dc0208e15c4ae9d4755dd90", func := "loop.example/flexlayout/laws.FnExactLineCounts", spec := "fnExactLineCounts", unfollowed := true, recurses := true, apart := false }
def FnExactLineCountsSaid : Prop := fnExactLineCountsRow.holds Try.pinned (OpenSpec.ofChange fnExactLineCountsSpec)

/-- ITS FALSE NEIGHBOUR: 'it returns false'. Refute it at one input. -/
def fnExactLineCountsWrong : ChangeSpec := { name := "fnExactLineCounts", fn := fun _ => fun
  | [d1, d2, d3] => { results := [.lit (.bool false)], args := [d1, d2, d3] }
  | _ => none }
def FnExactLineCountsWrongFalsely : Prop := fnExactLineCountsRow.holds Try.pinned (OpenSpec.ofChange fnExactLineCountsWrong)

/-- 'laws.FnExactLineHeights': WHATEVER THE INPUT: true; the input reads as it did. -/
def fnExactLineHeightsSpec : ChangeSpec := { name := "fnExactLineHeights", fn := fun _ => fun
  | [d1, d2, d3] => { results := [.lit (.bool true)], args := [d1, d2, d3] }
  | _ => none }
def fnExactLineHeightsRow : OpenClaim := { program := "ytmpbghepcjcnjaa", sum := "2a7ee234d2b482d3d0ce7252834fbe0d316d0e055dc0208e15c4ae9d4755dd90", func := "loop.example/flexlayout/laws.FnExactLineHeights", spec := "fnExactLineHeights", unfollowed := true, recurses := true, apart := false }
def FnExactLineHeightsSaid : Prop := fnExactLineHeightsRow.holds Try.pinned (OpenSpec.ofChange fnExactLineHeightsSpec)

/-- ITS FALSE NEIGHBOUR: 'it returns false'. Refute it at one input. -/
def fnExactLineHeightsWrong : ChangeSpec := { name := "fnExactLineHeights", fn := fun _ => fun
  | [d1, d2, d3] => { results := [.lit (.bool false)], args := [d1, d2, d3] }
  | _ => none }
def FnExactLineHeightsWrongFalsely : Prop := fnExactLineHeightsRow.holds Try.pinned (OpenSpec.ofChange fnExactLineHeightsWrong)

/-- 'laws.FnExactWrapParts': WHATEVER THE INPUT: true; the input reads as it did. -/
def fnExactWrapPartsSpec : ChangeSpec := { name := "fnExactWrapParts", fn := fun _ => fun
  | [d1, d2, d3] => { results := [.lit (.bool true)], args := [d1, d2, d3] }
  | _ => none }
def fnExactWrapPartsRow : OpenClaim := { program := "ytmpbghepcjcnjaa", sum := "2a7ee234d2b482d3d0ce7252834fbe0d316d0e055dc0208e15c4ae9d4755dd90", func := "loop.example/flexlayout/laws.FnExactWrapParts", spec := "fnExactWrapParts", unfollowed := true, recurses := true, apart := false }
def FnExactWrapPartsSaid : Prop := fnExactWrapPartsRow.holds Try.pinned (OpenSpec.ofChange fnExactWrapPartsSpec)

/-- ITS FALSE NEIGHBOUR: 'it returns false'. Refute it at one input. -/
def fnExactWrapPartsWrong : ChangeSpec := { name := "fnExactWrapParts", fn := fun _ => fun
  | [d1, d2, d3] => { results := [.lit (.bool false)], args := [d1, d2, d3] }
  | _ => none }
def FnExactWrapPartsWrongFalsely : Prop := fnExactWrapPartsRow.holds Try.pinned (OpenSpec.ofChange fnExactWrapPartsWrong)

/-- 'laws.FnExactWrapHeight': WHATEVER THE INPUT: true; the input reads as it did. -/
def fnExactWrapHeightSpec : ChangeSpec := { name := "fnExactWrapHeight", fn := fun _ => fun
  | [d1, d2, d3] => { results := [.lit (.bool true)], args := [d1, d2, d3] }
  | _ => none }
def fnExactWrapHeightRow : OpenClaim := { program := "ytmpbghepcjcnjaa", sum := "2a7ee234d2b482d3d0ce7252834fbe0d316d0e055dc0208e15c4ae9d4755dd90", func := "loop.example/flexlayout/laws.FnExactWrapHeight", spec := "fnExactWrapHeight", unfollowed := true, recurses := true, apart := false }
def FnExactWrapHeightSaid : Prop := fnExactWrapHeightRow.holds Try.pinned (OpenSpec.ofChange fnExactWrapHeightSpec)

/-- ITS FALSE NEIGHBOUR: 'it returns false'. Refute it at one input. -/
def fnExactWrapHeightWrong : ChangeSpec := { name := "fnExactWrapHeight", fn := fun _ => fun
  | [d1, d2, d3] => { results := [.lit (.bool false)], args := [d1, d2, d3] }
  | _ => none }
def FnExactWrapHeightWrongFalsely : Prop := fnExactWrapHeightRow.holds Try.pinned (OpenSpec.ofChange fnExactWrapHeightWrong)

/-- 'laws.FnValidTracks': WHATEVER THE INPUT: true; the input reads as it did. -/
def fnValidTracksSpec : ChangeSpec := { name := "fnValidTracks", fn := fun _ => fun
  | [d] => { results := [.lit (.bool true)], args := [d] }
  | _ => none }
def fnValidTracksRow : OpenClaim := { program := "ytmpbghepcjcnjaa", sum := "2a7ee234d2b482d3d0ce7252834fbe0d316d0e055dc0208e15c4ae9d4755dd90", func := "loop.example/flexlayout/laws.FnValidTracks", spec := "fnValidTracks", apart := false }
def FnValidTracksSaid : Prop := fnValidTracksRow.holds Try.pinned (OpenSpec.ofChange fnValidTracksSpec)

/-- ITS FALSE NEIGHBOUR: 'it returns false'. Refute it at one input. -/
def fnValidTracksWrong : ChangeSpec := { name := "fnValidTracks", fn := fun _ => fun
  | [d] => { results := [.lit (.bool false)], args := [d] }
  | _ => none }
def FnValidTracksWrongFalsely : Prop := fnValidTracksRow.holds Try.pinned (OpenSpec.ofChange fnValidTracksWrong)

/-- 'laws.FnValidParts': WHATEVER THE INPUT: true; the input reads as it did. -/
def fnValidPartsSpec : ChangeSpec := { name := "fnValidParts", fn := fun _ => fun
  | [d] => { results := [.lit (.bool true)], args := [d] }
  | _ => none }
def fnValidPartsRow : OpenClaim := { program := "ytmpbghepcjcnjaa", sum := "2a7ee234d2b482d3d0ce7252834fbe0d316d0e055dc0208e15c4ae9d4755dd90", func := "loop.example/flexlayout/laws.FnValidParts", spec := "fnValidParts", apart := false }
def FnValidPartsSaid : Prop := fnValidPartsRow.holds Try.pinned (OpenSpec.ofChange fnValidPartsSpec)

/-- ITS FALSE NEIGHBOUR: 'it returns false'. Refute it at one input. -/
def fnValidPartsWrong : ChangeSpec := { name := "fnValidParts", fn := fun _ => fun
  | [d] => { results := [.lit (.bool false)], args := [d] }
  | _ => none }
def FnValidPartsWrongFalsely : Prop := fnValidPartsRow.holds Try.pinned (OpenSpec.ofChange fnValidPartsWrong)

/- THE SECOND FORM. 'bulk': how many values and letters a reading holds, each counted each time it is reached (what is shared counts as often as it is met; a slice's spare places count too). A statement '..UptoSaid' is the law's where the arguments, and the package variables that the reading takes, are together of bulk at most 1048576: NARROWER than '..Said'. Prove '..Said' where nothing that the law and all that it calls make is longer than what came in: it says more and counts as full. Else prove '..UptoSaid'. A law counts once. -/
mutual
def uptoBulk {H : Type} : DataW H → Nat
  | .lit (.string bytes) => bytes.length + 1
  | .lit _ => 1
  | .nil => 1
  | .ptr d => uptoBulk d + 1
  | .slice elems spare => uptoBulkAll elems + uptoBulkAll spare + 1
  | .agg parts => uptoBulkAll parts + 1
  | .iface _ d => uptoBulk d + 1
  | .map entries => uptoBulkEntries entries + 1
  | .held _ => 1
def uptoBulkAll {H : Type} : List (DataW H) → Nat
  | [] => 0
  | d :: r => uptoBulk d + uptoBulkAll r
def uptoBulkEntries {H : Type} : List (Lit × DataW H) → Nat
  | [] => 0
  | x :: r => uptoBulkEntry x + uptoBulkEntries r
def uptoBulkEntry {H : Type} : Lit × DataW H → Nat
  | (.string bytes, d) => bytes.length + uptoBulk d + 1
  | (_, d) => uptoBulk d + 1
 end
def uptoSmall : (H : Type) → List (DataW H) → Bool := fun _ ds => decide (uptoBulkAll ds ≤ 1048576)
def OpenSpec.upto (s : _root_.Go.ChangeSpec) : _root_.Go.OpenSpec := { _root_.Go.OpenSpec.ofChange s with cond := some uptoSmall }

/-- 'laws.FnExactValidTracks', WHERE WHAT IT READS IS OF BULK AT MOST 1048576: true; the input reads as it did. -/
def fnExactValidTracksUptoRow : OpenClaim := { program := "ytmpbghepcjcnjaa", sum := "2a7ee234d2b482d3d0ce7252834fbe0d316d0e055dc0208e15c4ae9d4755dd90", func := "loop.example/flexlayout/laws.FnExactValidTracks", spec := "fnExactValidTracks", apart := false, narrowed := true }
def FnExactValidTracksUptoSaid : Prop := fnExactValidTracksUptoRow.holds Try.pinned (OpenSpec.upto fnExactValidTracksSpec)

/-- 'laws.FnExactTrackSizes', WHERE WHAT IT READS IS OF BULK AT MOST 1048576: true; the input reads as it did. -/
def fnExactTrackSizesUptoRow : OpenClaim := { program := "ytmpbghepcjcnjaa", sum := "2a7ee234d2b482d3d0ce7252834fbe0d316d0e055dc0208e15c4ae9d4755dd90", func := "loop.example/flexlayout/laws.FnExactTrackSizes", spec := "fnExactTrackSizes", unfollowed := true, recurses := true, apart := false, narrowed := true }
def FnExactTrackSizesUptoSaid : Prop := fnExactTrackSizesUptoRow.holds Try.pinned (OpenSpec.upto fnExactTrackSizesSpec)

/-- 'laws.FnExactSpanOf', WHERE WHAT IT READS IS OF BULK AT MOST 1048576: true; the input reads as it did. -/
def fnExactSpanOfUptoRow : OpenClaim := { program := "ytmpbghepcjcnjaa", sum := "2a7ee234d2b482d3d0ce7252834fbe0d316d0e055dc0208e15c4ae9d4755dd90", func := "loop.example/flexlayout/laws.FnExactSpanOf", spec := "fnExactSpanOf", unfollowed := true, recurses := true, apart := false, narrowed := true }
def FnExactSpanOfUptoSaid : Prop := fnExactSpanOfUptoRow.holds Try.pinned (OpenSpec.upto fnExactSpanOfSpec)

/-- 'laws.FnExactAutoPlaces', WHERE WHAT IT READS IS OF BULK AT MOST 1048576: true; the input reads as it did. -/
def fnExactAutoPlacesUptoRow : OpenClaim := { program := "ytmpbghepcjcnjaa", sum := "2a7ee234d2b482d3d0ce7252834fbe0d316d0e055dc0208e15c4ae9d4755dd90", func := "loop.example/flexlayout/laws.FnExactAutoPlaces", spec := "fnExactAutoPlaces", apart := false, narrowed := true }
def FnExactAutoPlacesUptoSaid : Prop := fnExactAutoPlacesUptoRow.holds Try.pinned (OpenSpec.upto fnExactAutoPlacesSpec)

/-- 'laws.FnExactRowsUsed', WHERE WHAT IT READS IS OF BULK AT MOST 1048576: true; the input reads as it did. -/
def fnExactRowsUsedUptoRow : OpenClaim := { program := "ytmpbghepcjcnjaa", sum := "2a7ee234d2b482d3d0ce7252834fbe0d316d0e055dc0208e15c4ae9d4755dd90", func := "loop.example/flexlayout/laws.FnExactRowsUsed", spec := "fnExactRowsUsed", apart := false, narrowed := true }
def FnExactRowsUsedUptoSaid : Prop := fnExactRowsUsedUptoRow.holds Try.pinned (OpenSpec.upto fnExactRowsUsedSpec)

/-- 'laws.FnExactValidParts', WHERE WHAT IT READS IS OF BULK AT MOST 1048576: true; the input reads as it did. -/
def fnExactValidPartsUptoRow : OpenClaim := { program := "ytmpbghepcjcnjaa", sum := "2a7ee234d2b482d3d0ce7252834fbe0d316d0e055dc0208e15c4ae9d4755dd90", func := "loop.example/flexlayout/laws.FnExactValidParts", spec := "fnExactValidParts", apart := false, narrowed := true }
def FnExactValidPartsUptoSaid : Prop := fnExactValidPartsUptoRow.holds Try.pinned (OpenSpec.upto fnExactValidPartsSpec)

/-- 'laws.FnExactLineCounts', WHERE WHAT IT READS IS OF BULK AT MOST 1048576: true; the input reads as it did. -/
def fnExactLineCountsUptoRow : OpenClaim := { program := "ytmpbghepcjcnjaa", sum := "2a7ee234d2b482d3d0ce7252834fbe0d316d0e055dc0208e15c4ae9d4755dd90", func := "loop.example/flexlayout/laws.FnExactLineCounts", spec := "fnExactLineCounts", unfollowed := true, recurses := true, apart := false, narrowed := true }
def FnExactLineCountsUptoSaid : Prop := fnExactLineCountsUptoRow.holds Try.pinned (OpenSpec.upto fnExactLineCountsSpec)

/-- 'laws.FnExactLineHeights', WHERE WHAT IT READS IS OF BULK AT MOST 1048576: true; the input reads as it did. -/
def fnExactLineHeightsUptoRow : OpenClaim := { program := "ytmpbghepcjcnjaa", sum := "2a7ee234d2b482d3d0ce7252834fbe0d316d0e055dc0208e15c4ae9d4755dd90", func := "loop.example/flexlayout/laws.FnExactLineHeights", spec := "fnExactLineHeights", unfollowed := true, recurses := true, apart := false, narrowed := true }
def FnExactLineHeightsUptoSaid : Prop := fnExactLineHeightsUptoRow.holds Try.pinned (OpenSpec.upto fnExactLineHeightsSpec)

/-- 'laws.FnExactWrapParts', WHERE WHAT IT READS IS OF BULK AT MOST 1048576: true; the input reads as it did. -/
def fnExactWrapPartsUptoRow : OpenClaim := { program := "ytmpbghepcjcnjaa", sum := "2a7ee234d2b482d3d0ce7252834fbe0d316d0e055dc0208e15c4ae9d4755dd90", func := "loop.example/flexlayout/laws.FnExactWrapParts", spec := "fnExactWrapParts", unfollowed := true, recurses := true, apart := false, narrowed := true }
def FnExactWrapPartsUptoSaid : Prop := fnExactWrapPartsUptoRow.holds Try.pinned (OpenSpec.upto fnExactWrapPartsSpec)

/-- 'laws.FnExactWrapHeight', WHERE WHAT IT READS IS OF BULK AT MOST 1048576: true; the input reads as it did. -/
def fnExactWrapHeightUptoRow : OpenClaim := { program := "ytmpbghepcjcnjaa", sum := "2a7ee234d2b482d3d0ce7252834fbe0d316d0e055dc0208e15c4ae9d4755dd90", func := "loop.example/flexlayout/laws.FnExactWrapHeight", spec := "fnExactWrapHeight", unfollowed := true, recurses := true, apart := false, narrowed := true }
def FnExactWrapHeightUptoSaid : Prop := fnExactWrapHeightUptoRow.holds Try.pinned (OpenSpec.upto fnExactWrapHeightSpec)

/-- 'laws.FnValidTracks', WHERE WHAT IT READS IS OF BULK AT MOST 1048576: true; the input reads as it did. -/
def fnValidTracksUptoRow : OpenClaim := { program := "ytmpbghepcjcnjaa", sum := "2a7ee234d2b482d3d0ce7252834fbe0d316d0e055dc0208e15c4ae9d4755dd90", func := "loop.example/flexlayout/laws.FnValidTracks", spec := "fnValidTracks", apart := false, narrowed := true }
def FnValidTracksUptoSaid : Prop := fnValidTracksUptoRow.holds Try.pinned (OpenSpec.upto fnValidTracksSpec)

/-- 'laws.FnValidParts', WHERE WHAT IT READS IS OF BULK AT MOST 1048576: true; the input reads as it did. -/
def fnValidPartsUptoRow : OpenClaim := { program := "ytmpbghepcjcnjaa", sum := "2a7ee234d2b482d3d0ce7252834fbe0d316d0e055dc0208e15c4ae9d4755dd90", func := "loop.example/flexlayout/laws.FnValidParts", spec := "fnValidParts", apart := false, narrowed := true }
def FnValidPartsUptoSaid : Prop := fnValidPartsUptoRow.holds Try.pinned (OpenSpec.upto fnValidPartsSpec)

end Rows
end Go.Proofs.Ytmpbghepcjcnjaa
