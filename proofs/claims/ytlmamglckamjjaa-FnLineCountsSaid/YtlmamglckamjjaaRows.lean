/-
  No cell of these rows narrows 'for every input' (looked for: loops, veiled, ifaces, maps, wideKeys, modest, calm, conditions, laid).
  DERIVED. THE GIVEN ROWS OF THIS SEAT. 13 by the template 'for every input the law returns true; each argument reads behind the call as it read before'; 0 by the template 'total and deterministic' (their statements: YtlmamglckamjjaaTotals.lean).
  GIVEN WITH THE SEED: the statements are not yours to turn. If you find one false, say at which input.
  Laid BY PROGRAM, IN A SANDBOX (cutbox-rows.mjs): the forced cells as the released guide's own fill.sh prints them over the translation 19ee9baa22cb7c7a… (all of the seat's roots in one cut). By AI agents, Wed Nov 11 2026. No macro, syntax, notation, axiom, sorry.
-/
import Derived.Test.YtlmamglckamjjaaChecked
import GoSem.Claim
import GoSem.ClaimJoined
import GoSem.ClaimMapViews
import Derived.JoinedTies
import Derived.KernelRfl
namespace Go.Proofs.Ytlmamglckamjjaa
/- THE CELL 'sum', in the pinned program and in every row, IS THE sha256 OF THE DUMP (.gsa) THAT YtlmamglckamjjaaProg.lean LOADS. Nothing in Lean hashes anything: it is a label: what it is worth is what the hold of that sum in a sandbox is worth. -/
noncomputable def Try.pinned : Pinned := { name := "ytlmamglckamjjaa", sum := "19ee9baa22cb7c7a0f432e2511bcfd7d11cdc72f807e7db24a8e9b42ea7913b3", checked := Try.checked }
namespace Rows
def none {H : Type} : Left H := { results := [], args := [] }

/-- 'laws.FnAutoPlacesFull': WHATEVER THE INPUT: true; the input reads as it did. -/
def fnAutoPlacesFullSpec : ChangeSpec := { name := "fnAutoPlacesFull", fn := fun _ => fun
  | [d] => { results := [.lit (.bool true)], args := [d] }
  | _ => none }
def fnAutoPlacesFullRow : OpenClaim := { program := "ytlmamglckamjjaa", sum := "19ee9baa22cb7c7a0f432e2511bcfd7d11cdc72f807e7db24a8e9b42ea7913b3", func := "loop.example/flexlayout/laws.FnAutoPlacesFull", spec := "fnAutoPlacesFull", apart := false }
def FnAutoPlacesFullSaid : Prop := fnAutoPlacesFullRow.holds Try.pinned (OpenSpec.ofChange fnAutoPlacesFullSpec)

/-- ITS FALSE NEIGHBOUR: 'it returns false'. Refute it at one input. -/
def fnAutoPlacesFullWrong : ChangeSpec := { name := "fnAutoPlacesFull", fn := fun _ => fun
  | [d] => { results := [.lit (.bool false)], args := [d] }
  | _ => none }
def FnAutoPlacesFullWrongFalsely : Prop := fnAutoPlacesFullRow.holds Try.pinned (OpenSpec.ofChange fnAutoPlacesFullWrong)

/-- 'laws.FnRowsUsed': WHATEVER THE INPUT: true; the input reads as it did. -/
def fnRowsUsedSpec : ChangeSpec := { name := "fnRowsUsed", fn := fun _ => fun
  | [d] => { results := [.lit (.bool true)], args := [d] }
  | _ => none }
def fnRowsUsedRow : OpenClaim := { program := "ytlmamglckamjjaa", sum := "19ee9baa22cb7c7a0f432e2511bcfd7d11cdc72f807e7db24a8e9b42ea7913b3", func := "loop.example/flexlayout/laws.FnRowsUsed", spec := "fnRowsUsed", apart := false }
def FnRowsUsedSaid : Prop := fnRowsUsedRow.holds Try.pinned (OpenSpec.ofChange fnRowsUsedSpec)

/-- ITS FALSE NEIGHBOUR: 'it returns false'. Refute it at one input. -/
def fnRowsUsedWrong : ChangeSpec := { name := "fnRowsUsed", fn := fun _ => fun
  | [d] => { results := [.lit (.bool false)], args := [d] }
  | _ => none }
def FnRowsUsedWrongFalsely : Prop := fnRowsUsedRow.holds Try.pinned (OpenSpec.ofChange fnRowsUsedWrong)

/-- 'laws.FnRowsUsedMore': WHATEVER THE INPUT: true; the input reads as it did. -/
def fnRowsUsedMoreSpec : ChangeSpec := { name := "fnRowsUsedMore", fn := fun _ => fun
  | [d] => { results := [.lit (.bool true)], args := [d] }
  | _ => none }
def fnRowsUsedMoreRow : OpenClaim := { program := "ytlmamglckamjjaa", sum := "19ee9baa22cb7c7a0f432e2511bcfd7d11cdc72f807e7db24a8e9b42ea7913b3", func := "loop.example/flexlayout/laws.FnRowsUsedMore", spec := "fnRowsUsedMore", apart := false }
def FnRowsUsedMoreSaid : Prop := fnRowsUsedMoreRow.holds Try.pinned (OpenSpec.ofChange fnRowsUsedMoreSpec)

/-- ITS FALSE NEIGHBOUR: 'it returns false'. Refute it at one input. -/
def fnRowsUsedMoreWrong : ChangeSpec := { name := "fnRowsUsedMore", fn := fun _ => fun
  | [d] => { results := [.lit (.bool false)], args := [d] }
  | _ => none }
def FnRowsUsedMoreWrongFalsely : Prop := fnRowsUsedMoreRow.holds Try.pinned (OpenSpec.ofChange fnRowsUsedMoreWrong)

/-- 'laws.FnLineCounts': WHATEVER THE INPUT: true; the input reads as it did. -/
def fnLineCountsSpec : ChangeSpec := { name := "fnLineCounts", fn := fun _ => fun
  | [d] => { results := [.lit (.bool true)], args := [d] }
  | _ => none }
def fnLineCountsRow : OpenClaim := { program := "ytlmamglckamjjaa", sum := "19ee9baa22cb7c7a0f432e2511bcfd7d11cdc72f807e7db24a8e9b42ea7913b3", func := "loop.example/flexlayout/laws.FnLineCounts", spec := "fnLineCounts", unfollowed := true, recurses := true, apart := false }
def FnLineCountsSaid : Prop := fnLineCountsRow.holds Try.pinned (OpenSpec.ofChange fnLineCountsSpec)

/-- ITS FALSE NEIGHBOUR: 'it returns false'. Refute it at one input. -/
def fnLineCountsWrong : ChangeSpec := { name := "fnLineCounts", fn := fun _ => fun
  | [d] => { results := [.lit (.bool false)], args := [d] }
  | _ => none }
def FnLineCountsWrongFalsely : Prop := fnLineCountsRow.holds Try.pinned (OpenSpec.ofChange fnLineCountsWrong)

/-- 'laws.FnLineCountsFull': WHATEVER THE INPUT: true; the input reads as it did. -/
def fnLineCountsFullSpec : ChangeSpec := { name := "fnLineCountsFull", fn := fun _ => fun
  | [d] => { results := [.lit (.bool true)], args := [d] }
  | _ => none }
def fnLineCountsFullRow : OpenClaim := { program := "ytlmamglckamjjaa", sum := "19ee9baa22cb7c7a0f432e2511bcfd7d11cdc72f807e7db24a8e9b42ea7913b3", func := "loop.example/flexlayout/laws.FnLineCountsFull", spec := "fnLineCountsFull", unfollowed := true, recurses := true, apart := false }
def FnLineCountsFullSaid : Prop := fnLineCountsFullRow.holds Try.pinned (OpenSpec.ofChange fnLineCountsFullSpec)

/-- ITS FALSE NEIGHBOUR: 'it returns false'. Refute it at one input. -/
def fnLineCountsFullWrong : ChangeSpec := { name := "fnLineCountsFull", fn := fun _ => fun
  | [d] => { results := [.lit (.bool false)], args := [d] }
  | _ => none }
def FnLineCountsFullWrongFalsely : Prop := fnLineCountsFullRow.holds Try.pinned (OpenSpec.ofChange fnLineCountsFullWrong)

/-- 'laws.FnLineHeights': WHATEVER THE INPUT: true; the input reads as it did. -/
def fnLineHeightsSpec : ChangeSpec := { name := "fnLineHeights", fn := fun _ => fun
  | [d] => { results := [.lit (.bool true)], args := [d] }
  | _ => none }
def fnLineHeightsRow : OpenClaim := { program := "ytlmamglckamjjaa", sum := "19ee9baa22cb7c7a0f432e2511bcfd7d11cdc72f807e7db24a8e9b42ea7913b3", func := "loop.example/flexlayout/laws.FnLineHeights", spec := "fnLineHeights", unfollowed := true, recurses := true, apart := false }
def FnLineHeightsSaid : Prop := fnLineHeightsRow.holds Try.pinned (OpenSpec.ofChange fnLineHeightsSpec)

/-- ITS FALSE NEIGHBOUR: 'it returns false'. Refute it at one input. -/
def fnLineHeightsWrong : ChangeSpec := { name := "fnLineHeights", fn := fun _ => fun
  | [d] => { results := [.lit (.bool false)], args := [d] }
  | _ => none }
def FnLineHeightsWrongFalsely : Prop := fnLineHeightsRow.holds Try.pinned (OpenSpec.ofChange fnLineHeightsWrong)

/-- 'laws.FnWrapParts': WHATEVER THE INPUT: true; the input reads as it did. -/
def fnWrapPartsSpec : ChangeSpec := { name := "fnWrapParts", fn := fun _ => fun
  | [d] => { results := [.lit (.bool true)], args := [d] }
  | _ => none }
def fnWrapPartsRow : OpenClaim := { program := "ytlmamglckamjjaa", sum := "19ee9baa22cb7c7a0f432e2511bcfd7d11cdc72f807e7db24a8e9b42ea7913b3", func := "loop.example/flexlayout/laws.FnWrapParts", spec := "fnWrapParts", unfollowed := true, recurses := true, apart := false }
def FnWrapPartsSaid : Prop := fnWrapPartsRow.holds Try.pinned (OpenSpec.ofChange fnWrapPartsSpec)

/-- ITS FALSE NEIGHBOUR: 'it returns false'. Refute it at one input. -/
def fnWrapPartsWrong : ChangeSpec := { name := "fnWrapParts", fn := fun _ => fun
  | [d] => { results := [.lit (.bool false)], args := [d] }
  | _ => none }
def FnWrapPartsWrongFalsely : Prop := fnWrapPartsRow.holds Try.pinned (OpenSpec.ofChange fnWrapPartsWrong)

/-- 'laws.FnWrapPartsWidth': WHATEVER THE INPUT: true; the input reads as it did. -/
def fnWrapPartsWidthSpec : ChangeSpec := { name := "fnWrapPartsWidth", fn := fun _ => fun
  | [d] => { results := [.lit (.bool true)], args := [d] }
  | _ => none }
def fnWrapPartsWidthRow : OpenClaim := { program := "ytlmamglckamjjaa", sum := "19ee9baa22cb7c7a0f432e2511bcfd7d11cdc72f807e7db24a8e9b42ea7913b3", func := "loop.example/flexlayout/laws.FnWrapPartsWidth", spec := "fnWrapPartsWidth", unfollowed := true, recurses := true, apart := false }
def FnWrapPartsWidthSaid : Prop := fnWrapPartsWidthRow.holds Try.pinned (OpenSpec.ofChange fnWrapPartsWidthSpec)

/-- ITS FALSE NEIGHBOUR: 'it returns false'. Refute it at one input. -/
def fnWrapPartsWidthWrong : ChangeSpec := { name := "fnWrapPartsWidth", fn := fun _ => fun
  | [d] => { results := [.lit (.bool false)], args := [d] }
  | _ => none }
def FnWrapPartsWidthWrongFalsely : Prop := fnWrapPartsWidthRow.holds Try.pinned (OpenSpec.ofChange fnWrapPartsWidthWrong)

/-- 'laws.FnWrapHeight': WHATEVER THE INPUT: true; the input reads as it did. -/
def fnWrapHeightSpec : ChangeSpec := { name := "fnWrapHeight", fn := fun _ => fun
  | [d] => { results := [.lit (.bool true)], args := [d] }
  | _ => none }
def fnWrapHeightRow : OpenClaim := { program := "ytlmamglckamjjaa", sum := "19ee9baa22cb7c7a0f432e2511bcfd7d11cdc72f807e7db24a8e9b42ea7913b3", func := "loop.example/flexlayout/laws.FnWrapHeight", spec := "fnWrapHeight", unfollowed := true, recurses := true, apart := false }
def FnWrapHeightSaid : Prop := fnWrapHeightRow.holds Try.pinned (OpenSpec.ofChange fnWrapHeightSpec)

/-- ITS FALSE NEIGHBOUR: 'it returns false'. Refute it at one input. -/
def fnWrapHeightWrong : ChangeSpec := { name := "fnWrapHeight", fn := fun _ => fun
  | [d] => { results := [.lit (.bool false)], args := [d] }
  | _ => none }
def FnWrapHeightWrongFalsely : Prop := fnWrapHeightRow.holds Try.pinned (OpenSpec.ofChange fnWrapHeightWrong)

/-- 'laws.FnWrapHeightWide': WHATEVER THE INPUT: true; the input reads as it did. -/
def fnWrapHeightWideSpec : ChangeSpec := { name := "fnWrapHeightWide", fn := fun _ => fun
  | [d] => { results := [.lit (.bool true)], args := [d] }
  | _ => none }
def fnWrapHeightWideRow : OpenClaim := { program := "ytlmamglckamjjaa", sum := "19ee9baa22cb7c7a0f432e2511bcfd7d11cdc72f807e7db24a8e9b42ea7913b3", func := "loop.example/flexlayout/laws.FnWrapHeightWide", spec := "fnWrapHeightWide", unfollowed := true, recurses := true, apart := false }
def FnWrapHeightWideSaid : Prop := fnWrapHeightWideRow.holds Try.pinned (OpenSpec.ofChange fnWrapHeightWideSpec)

/-- ITS FALSE NEIGHBOUR: 'it returns false'. Refute it at one input. -/
def fnWrapHeightWideWrong : ChangeSpec := { name := "fnWrapHeightWide", fn := fun _ => fun
  | [d] => { results := [.lit (.bool false)], args := [d] }
  | _ => none }
def FnWrapHeightWideWrongFalsely : Prop := fnWrapHeightWideRow.holds Try.pinned (OpenSpec.ofChange fnWrapHeightWideWrong)

/-- 'laws.FnAutoPlacesPrefix': WHATEVER THE INPUT: true; the input reads as it did. -/
def fnAutoPlacesPrefixSpec : ChangeSpec := { name := "fnAutoPlacesPrefix", fn := fun _ => fun
  | [d] => { results := [.lit (.bool true)], args := [d] }
  | _ => none }
def fnAutoPlacesPrefixRow : OpenClaim := { program := "ytlmamglckamjjaa", sum := "19ee9baa22cb7c7a0f432e2511bcfd7d11cdc72f807e7db24a8e9b42ea7913b3", func := "loop.example/flexlayout/laws.FnAutoPlacesPrefix", spec := "fnAutoPlacesPrefix", apart := false }
def FnAutoPlacesPrefixSaid : Prop := fnAutoPlacesPrefixRow.holds Try.pinned (OpenSpec.ofChange fnAutoPlacesPrefixSpec)

/-- ITS FALSE NEIGHBOUR: 'it returns false'. Refute it at one input. -/
def fnAutoPlacesPrefixWrong : ChangeSpec := { name := "fnAutoPlacesPrefix", fn := fun _ => fun
  | [d] => { results := [.lit (.bool false)], args := [d] }
  | _ => none }
def FnAutoPlacesPrefixWrongFalsely : Prop := fnAutoPlacesPrefixRow.holds Try.pinned (OpenSpec.ofChange fnAutoPlacesPrefixWrong)

/-- 'laws.FnLineCountsOne': WHATEVER THE INPUT: true; the input reads as it did. -/
def fnLineCountsOneSpec : ChangeSpec := { name := "fnLineCountsOne", fn := fun _ => fun
  | [d] => { results := [.lit (.bool true)], args := [d] }
  | _ => none }
def fnLineCountsOneRow : OpenClaim := { program := "ytlmamglckamjjaa", sum := "19ee9baa22cb7c7a0f432e2511bcfd7d11cdc72f807e7db24a8e9b42ea7913b3", func := "loop.example/flexlayout/laws.FnLineCountsOne", spec := "fnLineCountsOne", unfollowed := true, recurses := true, apart := false }
def FnLineCountsOneSaid : Prop := fnLineCountsOneRow.holds Try.pinned (OpenSpec.ofChange fnLineCountsOneSpec)

/-- ITS FALSE NEIGHBOUR: 'it returns false'. Refute it at one input. -/
def fnLineCountsOneWrong : ChangeSpec := { name := "fnLineCountsOne", fn := fun _ => fun
  | [d] => { results := [.lit (.bool false)], args := [d] }
  | _ => none }
def FnLineCountsOneWrongFalsely : Prop := fnLineCountsOneRow.holds Try.pinned (OpenSpec.ofChange fnLineCountsOneWrong)

/-- 'laws.FnWrapHeightMore': WHATEVER THE INPUT: true; the input reads as it did. -/
def fnWrapHeightMoreSpec : ChangeSpec := { name := "fnWrapHeightMore", fn := fun _ => fun
  | [d] => { results := [.lit (.bool true)], args := [d] }
  | _ => none }
def fnWrapHeightMoreRow : OpenClaim := { program := "ytlmamglckamjjaa", sum := "19ee9baa22cb7c7a0f432e2511bcfd7d11cdc72f807e7db24a8e9b42ea7913b3", func := "loop.example/flexlayout/laws.FnWrapHeightMore", spec := "fnWrapHeightMore", unfollowed := true, recurses := true, apart := false }
def FnWrapHeightMoreSaid : Prop := fnWrapHeightMoreRow.holds Try.pinned (OpenSpec.ofChange fnWrapHeightMoreSpec)

/-- ITS FALSE NEIGHBOUR: 'it returns false'. Refute it at one input. -/
def fnWrapHeightMoreWrong : ChangeSpec := { name := "fnWrapHeightMore", fn := fun _ => fun
  | [d] => { results := [.lit (.bool false)], args := [d] }
  | _ => none }
def FnWrapHeightMoreWrongFalsely : Prop := fnWrapHeightMoreRow.holds Try.pinned (OpenSpec.ofChange fnWrapHeightMoreWrong)

/- THE SECOND FORM. 'bulk': how many values and letters a reading holds, each counted each time it is reached (what is shared counts as often as it is met; a slice's spare places count too). A statement '..UptoSaid' is the law's where the arguments, and the package variables that the reading takes, are together of bulk at most 1048576: NARROWER than '..Said'. Prove '..Said' where nothing that the law and all that it calls make is longer than what came in: it says more and counts as full. Else prove '..UptoSaid'. A law counts once. -/
mutual
def uptoBulk {H : Type} : DataW H → Nat
  | .lit (.string bytes) => bytes.length + 1
  | .lit _ => 1
  | .nil => 1
  | .ptr d => uptoBulk d + 1
  | .slice elems spare => uptoBulkAll elems + uptoBulkAll spare + 1
  | .agg parts => uptoBulkAll parts + 1
  | .iface _ d => uptoBulk d + 1
  | .map entries => uptoBulkEntries entries + 1
  | .held _ => 1
def uptoBulkAll {H : Type} : List (DataW H) → Nat
  | [] => 0
  | d :: r => uptoBulk d + uptoBulkAll r
def uptoBulkEntries {H : Type} : List (Lit × DataW H) → Nat
  | [] => 0
  | x :: r => uptoBulkEntry x + uptoBulkEntries r
def uptoBulkEntry {H : Type} : Lit × DataW H → Nat
  | (.string bytes, d) => bytes.length + uptoBulk d + 1
  | (_, d) => uptoBulk d + 1
 end
def uptoSmall : (H : Type) → List (DataW H) → Bool := fun _ ds => decide (uptoBulkAll ds ≤ 1048576)
def OpenSpec.upto (s : _root_.Go.ChangeSpec) : _root_.Go.OpenSpec := { _root_.Go.OpenSpec.ofChange s with cond := some uptoSmall }

/-- 'laws.FnAutoPlacesFull', WHERE WHAT IT READS IS OF BULK AT MOST 1048576: true; the input reads as it did. -/
def fnAutoPlacesFullUptoRow : OpenClaim := { program := "ytlmamglckamjjaa", sum := "19ee9baa22cb7c7a0f432e2511bcfd7d11cdc72f807e7db24a8e9b42ea7913b3", func := "loop.example/flexlayout/laws.FnAutoPlacesFull", spec := "fnAutoPlacesFull", apart := false, narrowed := true }
def FnAutoPlacesFullUptoSaid : Prop := fnAutoPlacesFullUptoRow.holds Try.pinned (OpenSpec.upto fnAutoPlacesFullSpec)

/-- 'laws.FnRowsUsed', WHERE WHAT IT READS IS OF BULK AT MOST 1048576: true; the input reads as it did. -/
def fnRowsUsedUptoRow : OpenClaim := { program := "ytlmamglckamjjaa", sum := "19ee9baa22cb7c7a0f432e2511bcfd7d11cdc72f807e7db24a8e9b42ea7913b3", func := "loop.example/flexlayout/laws.FnRowsUsed", spec := "fnRowsUsed", apart := false, narrowed := true }
def FnRowsUsedUptoSaid : Prop := fnRowsUsedUptoRow.holds Try.pinned (OpenSpec.upto fnRowsUsedSpec)

/-- 'laws.FnRowsUsedMore', WHERE WHAT IT READS IS OF BULK AT MOST 1048576: true; the input reads as it did. -/
def fnRowsUsedMoreUptoRow : OpenClaim := { program := "ytlmamglckamjjaa", sum := "19ee9baa22cb7c7a0f432e2511bcfd7d11cdc72f807e7db24a8e9b42ea7913b3", func := "loop.example/flexlayout/laws.FnRowsUsedMore", spec := "fnRowsUsedMore", apart := false, narrowed := true }
def FnRowsUsedMoreUptoSaid : Prop := fnRowsUsedMoreUptoRow.holds Try.pinned (OpenSpec.upto fnRowsUsedMoreSpec)

/-- 'laws.FnLineCounts', WHERE WHAT IT READS IS OF BULK AT MOST 1048576: true; the input reads as it did. -/
def fnLineCountsUptoRow : OpenClaim := { program := "ytlmamglckamjjaa", sum := "19ee9baa22cb7c7a0f432e2511bcfd7d11cdc72f807e7db24a8e9b42ea7913b3", func := "loop.example/flexlayout/laws.FnLineCounts", spec := "fnLineCounts", unfollowed := true, recurses := true, apart := false, narrowed := true }
def FnLineCountsUptoSaid : Prop := fnLineCountsUptoRow.holds Try.pinned (OpenSpec.upto fnLineCountsSpec)

/-- 'laws.FnLineCountsFull', WHERE WHAT IT READS IS OF BULK AT MOST 1048576: true; the input reads as it did. -/
def fnLineCountsFullUptoRow : OpenClaim := { program := "ytlmamglckamjjaa", sum := "19ee9baa22cb7c7a0f432e2511bcfd7d11cdc72f807e7db24a8e9b42ea7913b3", func := "loop.example/flexlayout/laws.FnLineCountsFull", spec := "fnLineCountsFull", unfollowed := true, recurses := true, apart := false, narrowed := true }
def FnLineCountsFullUptoSaid : Prop := fnLineCountsFullUptoRow.holds Try.pinned (OpenSpec.upto fnLineCountsFullSpec)

/-- 'laws.FnLineHeights', WHERE WHAT IT READS IS OF BULK AT MOST 1048576: true; the input reads as it did. -/
def fnLineHeightsUptoRow : OpenClaim := { program := "ytlmamglckamjjaa", sum := "19ee9baa22cb7c7a0f432e2511bcfd7d11cdc72f807e7db24a8e9b42ea7913b3", func := "loop.example/flexlayout/laws.FnLineHeights", spec := "fnLineHeights", unfollowed := true, recurses := true, apart := false, narrowed := true }
def FnLineHeightsUptoSaid : Prop := fnLineHeightsUptoRow.holds Try.pinned (OpenSpec.upto fnLineHeightsSpec)

/-- 'laws.FnWrapParts', WHERE WHAT IT READS IS OF BULK AT MOST 1048576: true; the input reads as it did. -/
def fnWrapPartsUptoRow : OpenClaim := { program := "ytlmamglckamjjaa", sum := "19ee9baa22cb7c7a0f432e2511bcfd7d11cdc72f807e7db24a8e9b42ea7913b3", func := "loop.example/flexlayout/laws.FnWrapParts", spec := "fnWrapParts", unfollowed := true, recurses := true, apart := false, narrowed := true }
def FnWrapPartsUptoSaid : Prop := fnWrapPartsUptoRow.holds Try.pinned (OpenSpec.upto fnWrapPartsSpec)

/-- 'laws.FnWrapPartsWidth', WHERE WHAT IT READS IS OF BULK AT MOST 1048576: true; the input reads as it did. -/
def fnWrapPartsWidthUptoRow : OpenClaim := { program := "ytlmamglckamjjaa", sum := "19ee9baa22cb7c7a0f432e2511bcfd7d11cdc72f807e7db24a8e9b42ea7913b3", func := "loop.example/flexlayout/laws.FnWrapPartsWidth", spec := "fnWrapPartsWidth", unfollowed := true, recurses := true, apart := false, narrowed := true }
def FnWrapPartsWidthUptoSaid : Prop := fnWrapPartsWidthUptoRow.holds Try.pinned (OpenSpec.upto fnWrapPartsWidthSpec)

/-- 'laws.FnWrapHeight', WHERE WHAT IT READS IS OF BULK AT MOST 1048576: true; the input reads as it did. -/
def fnWrapHeightUptoRow : OpenClaim := { program := "ytlmamglckamjjaa", sum := "19ee9baa22cb7c7a0f432e2511bcfd7d11cdc72f807e7db24a8e9b42ea7913b3", func := "loop.example/flexlayout/laws.FnWrapHeight", spec := "fnWrapHeight", unfollowed := true, recurses := true, apart := false, narrowed := true }
def FnWrapHeightUptoSaid : Prop := fnWrapHeightUptoRow.holds Try.pinned (OpenSpec.upto fnWrapHeightSpec)

/-- 'laws.FnWrapHeightWide', WHERE WHAT IT READS IS OF BULK AT MOST 1048576: true; the input reads as it did. -/
def fnWrapHeightWideUptoRow : OpenClaim := { program := "ytlmamglckamjjaa", sum := "19ee9baa22cb7c7a0f432e2511bcfd7d11cdc72f807e7db24a8e9b42ea7913b3", func := "loop.example/flexlayout/laws.FnWrapHeightWide", spec := "fnWrapHeightWide", unfollowed := true, recurses := true, apart := false, narrowed := true }
def FnWrapHeightWideUptoSaid : Prop := fnWrapHeightWideUptoRow.holds Try.pinned (OpenSpec.upto fnWrapHeightWideSpec)

/-- 'laws.FnAutoPlacesPrefix', WHERE WHAT IT READS IS OF BULK AT MOST 1048576: true; the input reads as it did. -/
def fnAutoPlacesPrefixUptoRow : OpenClaim := { program := "ytlmamglckamjjaa", sum := "19ee9baa22cb7c7a0f432e2511bcfd7d11cdc72f807e7db24a8e9b42ea7913b3", func := "loop.example/flexlayout/laws.FnAutoPlacesPrefix", spec := "fnAutoPlacesPrefix", apart := false, narrowed := true }
def FnAutoPlacesPrefixUptoSaid : Prop := fnAutoPlacesPrefixUptoRow.holds Try.pinned (OpenSpec.upto fnAutoPlacesPrefixSpec)

/-- 'laws.FnLineCountsOne', WHERE WHAT IT READS IS OF BULK AT MOST 1048576: true; the input reads as it did. -/
def fnLineCountsOneUptoRow : OpenClaim := { program := "ytlmamglckamjjaa", sum := "19ee9baa22cb7c7a0f432e2511bcfd7d11cdc72f807e7db24a8e9b42ea7913b3", func := "loop.example/flexlayout/laws.FnLineCountsOne", spec := "fnLineCountsOne", unfollowed := true, recurses := true, apart := false, narrowed := true }
def FnLineCountsOneUptoSaid : Prop := fnLineCountsOneUptoRow.holds Try.pinned (OpenSpec.upto fnLineCountsOneSpec)

/-- 'laws.FnWrapHeightMore', WHERE WHAT IT READS IS OF BULK AT MOST 1048576: true; the input reads as it did. -/
def fnWrapHeightMoreUptoRow : OpenClaim := { program := "ytlmamglckamjjaa", sum := "19ee9baa22cb7c7a0f432e2511bcfd7d11cdc72f807e7db24a8e9b42ea7913b3", func := "loop.example/flexlayout/laws.FnWrapHeightMore", spec := "fnWrapHeightMore", unfollowed := true, recurses := true, apart := false, narrowed := true }
def FnWrapHeightMoreUptoSaid : Prop := fnWrapHeightMoreUptoRow.holds Try.pinned (OpenSpec.upto fnWrapHeightMoreSpec)

end Rows
end Go.Proofs.Ytlmamglckamjjaa
