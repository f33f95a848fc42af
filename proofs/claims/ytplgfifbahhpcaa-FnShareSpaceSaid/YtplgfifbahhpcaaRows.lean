/-
  No cell of these rows narrows 'for every input' (looked for: loops, veiled, ifaces, maps, wideKeys, modest, calm, conditions, laid).
  DERIVED. THE GIVEN ROWS OF THIS SEAT. 12 by the template 'for every input the law returns true; each argument reads behind the call as it read before'; 0 by the template 'total and deterministic' (their statements: YtplgfifbahhpcaaTotals.lean).
  GIVEN WITH THE SEED: the statements are not yours to turn. If you find one false, say at which input.
  Laid BY PROGRAM, IN A SANDBOX (cutbox-rows.mjs): the forced cells as the released guide's own fill.sh prints them over the translation 966de83f9eeedf2b… (all of the seat's roots in one cut). By AI agents, Wed Nov 11 2026. No macro, syntax, notation, axiom, sorry.
-/
import Derived.Test.YtplgfifbahhpcaaChecked
import GoSem.Claim
import GoSem.ClaimJoined
import GoSem.ClaimMapViews
import Derived.JoinedTies
import Derived.KernelRfl
namespace Go.Proofs.Ytplgfifbahhpcaa
/- THE CELL 'sum', in the pinned program and in every row, IS THE sha256 OF THE DUMP (.gsa) THAT YtplgfifbahhpcaaProg.lean LOADS. Nothing in Lean hashes anything: it is a label: what it is worth is what the hold of that sum in a sandbox is worth. -/
noncomputable def Try.pinned : Pinned := { name := "ytplgfifbahhpcaa", sum := "966de83f9eeedf2beeac5af637c480774c3e354ab140b767c4509ac3f8d463fd", checked := Try.checked }
namespace Rows
def none {H : Type} : Left H := { results := [], args := [] }

/-- 'laws.FnShareSpace': WHATEVER THE INPUT: true; the input reads as it did. -/
def fnShareSpaceSpec : ChangeSpec := { name := "fnShareSpace", fn := fun _ => fun
  | [d] => { results := [.lit (.bool true)], args := [d] }
  | _ => none }
def fnShareSpaceRow : OpenClaim := { program := "ytplgfifbahhpcaa", sum := "966de83f9eeedf2beeac5af637c480774c3e354ab140b767c4509ac3f8d463fd", func := "loop.example/flexlayout/laws.FnShareSpace", spec := "fnShareSpace", unfollowed := true, recurses := true, apart := false }
def FnShareSpaceSaid : Prop := fnShareSpaceRow.holds Try.pinned (OpenSpec.ofChange fnShareSpaceSpec)

/-- ITS FALSE NEIGHBOUR: 'it returns false'. Refute it at one input. -/
def fnShareSpaceWrong : ChangeSpec := { name := "fnShareSpace", fn := fun _ => fun
  | [d] => { results := [.lit (.bool false)], args := [d] }
  | _ => none }
def FnShareSpaceWrongFalsely : Prop := fnShareSpaceRow.holds Try.pinned (OpenSpec.ofChange fnShareSpaceWrong)

/-- 'laws.FnShareSpaceNone': WHATEVER THE INPUT: true; the input reads as it did. -/
def fnShareSpaceNoneSpec : ChangeSpec := { name := "fnShareSpaceNone", fn := fun _ => fun
  | [d] => { results := [.lit (.bool true)], args := [d] }
  | _ => none }
def fnShareSpaceNoneRow : OpenClaim := { program := "ytplgfifbahhpcaa", sum := "966de83f9eeedf2beeac5af637c480774c3e354ab140b767c4509ac3f8d463fd", func := "loop.example/flexlayout/laws.FnShareSpaceNone", spec := "fnShareSpaceNone", unfollowed := true, recurses := true, apart := false }
def FnShareSpaceNoneSaid : Prop := fnShareSpaceNoneRow.holds Try.pinned (OpenSpec.ofChange fnShareSpaceNoneSpec)

/-- ITS FALSE NEIGHBOUR: 'it returns false'. Refute it at one input. -/
def fnShareSpaceNoneWrong : ChangeSpec := { name := "fnShareSpaceNone", fn := fun _ => fun
  | [d] => { results := [.lit (.bool false)], args := [d] }
  | _ => none }
def FnShareSpaceNoneWrongFalsely : Prop := fnShareSpaceNoneRow.holds Try.pinned (OpenSpec.ofChange fnShareSpaceNoneWrong)

/-- 'laws.FnShareSpaceScale': WHATEVER THE INPUT: true; the input reads as it did. -/
def fnShareSpaceScaleSpec : ChangeSpec := { name := "fnShareSpaceScale", fn := fun _ => fun
  | [d] => { results := [.lit (.bool true)], args := [d] }
  | _ => none }
def fnShareSpaceScaleRow : OpenClaim := { program := "ytplgfifbahhpcaa", sum := "966de83f9eeedf2beeac5af637c480774c3e354ab140b767c4509ac3f8d463fd", func := "loop.example/flexlayout/laws.FnShareSpaceScale", spec := "fnShareSpaceScale", unfollowed := true, recurses := true, apart := false }
def FnShareSpaceScaleSaid : Prop := fnShareSpaceScaleRow.holds Try.pinned (OpenSpec.ofChange fnShareSpaceScaleSpec)

/-- ITS FALSE NEIGHBOUR: 'it returns false'. Refute it at one input. -/
def fnShareSpaceScaleWrong : ChangeSpec := { name := "fnShareSpaceScale", fn := fun _ => fun
  | [d] => { results := [.lit (.bool false)], args := [d] }
  | _ => none }
def FnShareSpaceScaleWrongFalsely : Prop := fnShareSpaceScaleRow.holds Try.pinned (OpenSpec.ofChange fnShareSpaceScaleWrong)

/-- 'laws.FnShareSpaceEven': WHATEVER THE INPUT: true; the input reads as it did. -/
def fnShareSpaceEvenSpec : ChangeSpec := { name := "fnShareSpaceEven", fn := fun _ => fun
  | [d] => { results := [.lit (.bool true)], args := [d] }
  | _ => none }
def fnShareSpaceEvenRow : OpenClaim := { program := "ytplgfifbahhpcaa", sum := "966de83f9eeedf2beeac5af637c480774c3e354ab140b767c4509ac3f8d463fd", func := "loop.example/flexlayout/laws.FnShareSpaceEven", spec := "fnShareSpaceEven", unfollowed := true, recurses := true, apart := false }
def FnShareSpaceEvenSaid : Prop := fnShareSpaceEvenRow.holds Try.pinned (OpenSpec.ofChange fnShareSpaceEvenSpec)

/-- ITS FALSE NEIGHBOUR: 'it returns false'. Refute it at one input. -/
def fnShareSpaceEvenWrong : ChangeSpec := { name := "fnShareSpaceEven", fn := fun _ => fun
  | [d] => { results := [.lit (.bool false)], args := [d] }
  | _ => none }
def FnShareSpaceEvenWrongFalsely : Prop := fnShareSpaceEvenRow.holds Try.pinned (OpenSpec.ofChange fnShareSpaceEvenWrong)

/-- 'laws.FnExactShareSpace': WHATEVER THE INPUT: true; the input reads as it did. -/
def fnExactShareSpaceSpec : ChangeSpec := { name := "fnExactShareSpace", fn := fun _ => fun
  | [d1, d2] => { results := [.lit (.bool true)], args := [d1, d2] }
  | _ => none }
def fnExactShareSpaceRow : OpenClaim := { program := "ytplgfifbahhpcaa", sum := "966de83f9eeedf2beeac5af637c480774c3e354ab140b767c4509ac3f8d463fd", func := "loop.example/flexlayout/laws.FnExactShareSpace", spec := "fnExactShareSpace", unfollowed := true, recurses := true, apart := false }
def FnExactShareSpaceSaid : Prop := fnExactShareSpaceRow.holds Try.pinned (OpenSpec.ofChange fnExactShareSpaceSpec)

/-- ITS FALSE NEIGHBOUR: 'it returns false'. Refute it at one input. -/
def fnExactShareSpaceWrong : ChangeSpec := { name := "fnExactShareSpace", fn := fun _ => fun
  | [d1, d2] => { results := [.lit (.bool false)], args := [d1, d2] }
  | _ => none }
def FnExactShareSpaceWrongFalsely : Prop := fnExactShareSpaceRow.holds Try.pinned (OpenSpec.ofChange fnExactShareSpaceWrong)

/-- 'laws.FnOffsetsOf': WHATEVER THE INPUT: true; the input reads as it did. -/
def fnOffsetsOfSpec : ChangeSpec := { name := "fnOffsetsOf", fn := fun _ => fun
  | [d] => { results := [.lit (.bool true)], args := [d] }
  | _ => none }
def fnOffsetsOfRow : OpenClaim := { program := "ytplgfifbahhpcaa", sum := "966de83f9eeedf2beeac5af637c480774c3e354ab140b767c4509ac3f8d463fd", func := "loop.example/flexlayout/laws.FnOffsetsOf", spec := "fnOffsetsOf", unfollowed := true, recurses := true, apart := false }
def FnOffsetsOfSaid : Prop := fnOffsetsOfRow.holds Try.pinned (OpenSpec.ofChange fnOffsetsOfSpec)

/-- ITS FALSE NEIGHBOUR: 'it returns false'. Refute it at one input. -/
def fnOffsetsOfWrong : ChangeSpec := { name := "fnOffsetsOf", fn := fun _ => fun
  | [d] => { results := [.lit (.bool false)], args := [d] }
  | _ => none }
def FnOffsetsOfWrongFalsely : Prop := fnOffsetsOfRow.holds Try.pinned (OpenSpec.ofChange fnOffsetsOfWrong)

/-- 'laws.FnOffsetsOfGap': WHATEVER THE INPUT: true; the input reads as it did. -/
def fnOffsetsOfGapSpec : ChangeSpec := { name := "fnOffsetsOfGap", fn := fun _ => fun
  | [d] => { results := [.lit (.bool true)], args := [d] }
  | _ => none }
def fnOffsetsOfGapRow : OpenClaim := { program := "ytplgfifbahhpcaa", sum := "966de83f9eeedf2beeac5af637c480774c3e354ab140b767c4509ac3f8d463fd", func := "loop.example/flexlayout/laws.FnOffsetsOfGap", spec := "fnOffsetsOfGap", unfollowed := true, recurses := true, apart := false }
def FnOffsetsOfGapSaid : Prop := fnOffsetsOfGapRow.holds Try.pinned (OpenSpec.ofChange fnOffsetsOfGapSpec)

/-- ITS FALSE NEIGHBOUR: 'it returns false'. Refute it at one input. -/
def fnOffsetsOfGapWrong : ChangeSpec := { name := "fnOffsetsOfGap", fn := fun _ => fun
  | [d] => { results := [.lit (.bool false)], args := [d] }
  | _ => none }
def FnOffsetsOfGapWrongFalsely : Prop := fnOffsetsOfGapRow.holds Try.pinned (OpenSpec.ofChange fnOffsetsOfGapWrong)

/-- 'laws.FnOffsetsOfEnd': WHATEVER THE INPUT: true; the input reads as it did. -/
def fnOffsetsOfEndSpec : ChangeSpec := { name := "fnOffsetsOfEnd", fn := fun _ => fun
  | [d] => { results := [.lit (.bool true)], args := [d] }
  | _ => none }
def fnOffsetsOfEndRow : OpenClaim := { program := "ytplgfifbahhpcaa", sum := "966de83f9eeedf2beeac5af637c480774c3e354ab140b767c4509ac3f8d463fd", func := "loop.example/flexlayout/laws.FnOffsetsOfEnd", spec := "fnOffsetsOfEnd", unfollowed := true, recurses := true, apart := false }
def FnOffsetsOfEndSaid : Prop := fnOffsetsOfEndRow.holds Try.pinned (OpenSpec.ofChange fnOffsetsOfEndSpec)

/-- ITS FALSE NEIGHBOUR: 'it returns false'. Refute it at one input. -/
def fnOffsetsOfEndWrong : ChangeSpec := { name := "fnOffsetsOfEnd", fn := fun _ => fun
  | [d] => { results := [.lit (.bool false)], args := [d] }
  | _ => none }
def FnOffsetsOfEndWrongFalsely : Prop := fnOffsetsOfEndRow.holds Try.pinned (OpenSpec.ofChange fnOffsetsOfEndWrong)

/-- 'laws.FnOffsetsOfFull': WHATEVER THE INPUT: true; the input reads as it did. -/
def fnOffsetsOfFullSpec : ChangeSpec := { name := "fnOffsetsOfFull", fn := fun _ => fun
  | [d] => { results := [.lit (.bool true)], args := [d] }
  | _ => none }
def fnOffsetsOfFullRow : OpenClaim := { program := "ytplgfifbahhpcaa", sum := "966de83f9eeedf2beeac5af637c480774c3e354ab140b767c4509ac3f8d463fd", func := "loop.example/flexlayout/laws.FnOffsetsOfFull", spec := "fnOffsetsOfFull", unfollowed := true, recurses := true, apart := false }
def FnOffsetsOfFullSaid : Prop := fnOffsetsOfFullRow.holds Try.pinned (OpenSpec.ofChange fnOffsetsOfFullSpec)

/-- ITS FALSE NEIGHBOUR: 'it returns false'. Refute it at one input. -/
def fnOffsetsOfFullWrong : ChangeSpec := { name := "fnOffsetsOfFull", fn := fun _ => fun
  | [d] => { results := [.lit (.bool false)], args := [d] }
  | _ => none }
def FnOffsetsOfFullWrongFalsely : Prop := fnOffsetsOfFullRow.holds Try.pinned (OpenSpec.ofChange fnOffsetsOfFullWrong)

/-- 'laws.FnExactOffsetsOf': WHATEVER THE INPUT: true; the input reads as it did. -/
def fnExactOffsetsOfSpec : ChangeSpec := { name := "fnExactOffsetsOf", fn := fun _ => fun
  | [d1, d2, d3, d4] => { results := [.lit (.bool true)], args := [d1, d2, d3, d4] }
  | _ => none }
def fnExactOffsetsOfRow : OpenClaim := { program := "ytplgfifbahhpcaa", sum := "966de83f9eeedf2beeac5af637c480774c3e354ab140b767c4509ac3f8d463fd", func := "loop.example/flexlayout/laws.FnExactOffsetsOf", spec := "fnExactOffsetsOf", unfollowed := true, recurses := true, apart := false }
def FnExactOffsetsOfSaid : Prop := fnExactOffsetsOfRow.holds Try.pinned (OpenSpec.ofChange fnExactOffsetsOfSpec)

/-- ITS FALSE NEIGHBOUR: 'it returns false'. Refute it at one input. -/
def fnExactOffsetsOfWrong : ChangeSpec := { name := "fnExactOffsetsOf", fn := fun _ => fun
  | [d1, d2, d3, d4] => { results := [.lit (.bool false)], args := [d1, d2, d3, d4] }
  | _ => none }
def FnExactOffsetsOfWrongFalsely : Prop := fnExactOffsetsOfRow.holds Try.pinned (OpenSpec.ofChange fnExactOffsetsOfWrong)

/-- 'laws.FnExactLeftOver': WHATEVER THE INPUT: true; the input reads as it did. -/
def fnExactLeftOverSpec : ChangeSpec := { name := "fnExactLeftOver", fn := fun _ => fun
  | [d1, d2] => { results := [.lit (.bool true)], args := [d1, d2] }
  | _ => none }
def fnExactLeftOverRow : OpenClaim := { program := "ytplgfifbahhpcaa", sum := "966de83f9eeedf2beeac5af637c480774c3e354ab140b767c4509ac3f8d463fd", func := "loop.example/flexlayout/laws.FnExactLeftOver", spec := "fnExactLeftOver", unfollowed := true, recurses := true, apart := false }
def FnExactLeftOverSaid : Prop := fnExactLeftOverRow.holds Try.pinned (OpenSpec.ofChange fnExactLeftOverSpec)

/-- ITS FALSE NEIGHBOUR: 'it returns false'. Refute it at one input. -/
def fnExactLeftOverWrong : ChangeSpec := { name := "fnExactLeftOver", fn := fun _ => fun
  | [d1, d2] => { results := [.lit (.bool false)], args := [d1, d2] }
  | _ => none }
def FnExactLeftOverWrongFalsely : Prop := fnExactLeftOverRow.holds Try.pinned (OpenSpec.ofChange fnExactLeftOverWrong)

/-- 'laws.FnExactFlexSizes': WHATEVER THE INPUT: true; the input reads as it did. -/
def fnExactFlexSizesSpec : ChangeSpec := { name := "fnExactFlexSizes", fn := fun _ => fun
  | [d1, d2] => { results := [.lit (.bool true)], args := [d1, d2] }
  | _ => none }
def fnExactFlexSizesRow : OpenClaim := { program := "ytplgfifbahhpcaa", sum := "966de83f9eeedf2beeac5af637c480774c3e354ab140b767c4509ac3f8d463fd", func := "loop.example/flexlayout/laws.FnExactFlexSizes", spec := "fnExactFlexSizes", unfollowed := true, recurses := true, apart := false }
def FnExactFlexSizesSaid : Prop := fnExactFlexSizesRow.holds Try.pinned (OpenSpec.ofChange fnExactFlexSizesSpec)

/-- ITS FALSE NEIGHBOUR: 'it returns false'. Refute it at one input. -/
def fnExactFlexSizesWrong : ChangeSpec := { name := "fnExactFlexSizes", fn := fun _ => fun
  | [d1, d2] => { results := [.lit (.bool false)], args := [d1, d2] }
  | _ => none }
def FnExactFlexSizesWrongFalsely : Prop := fnExactFlexSizesRow.holds Try.pinned (OpenSpec.ofChange fnExactFlexSizesWrong)

/- THE SECOND FORM. 'bulk': how many values and letters a reading holds, each counted each time it is reached (what is shared counts as often as it is met; a slice's spare places count too). A statement '..UptoSaid' is the law's where the arguments, and the package variables that the reading takes, are together of bulk at most 1048576: NARROWER than '..Said'. Prove '..Said' where nothing that the law and all that it calls make is longer than what came in: it says more and counts as full. Else prove '..UptoSaid'. A law counts once. -/
mutual
def uptoBulk {H : Type} : DataW H → Nat
  | .lit (.string bytes) => bytes.length + 1
  | .lit _ => 1
  | .nil => 1
  | .ptr d => uptoBulk d + 1
  | .slice elems spare => uptoBulkAll elems + uptoBulkAll spare + 1
  | .agg parts => uptoBulkAll parts + 1
  | .iface _ d => uptoBulk d + 1
  | .map entries => uptoBulkEntries entries + 1
  | .held _ => 1
def uptoBulkAll {H : Type} : List (DataW H) → Nat
  | [] => 0
  | d :: r => uptoBulk d + uptoBulkAll r
def uptoBulkEntries {H : Type} : List (Lit × DataW H) → Nat
  | [] => 0
  | x :: r => uptoBulkEntry x + uptoBulkEntries r
def uptoBulkEntry {H : Type} : Lit × DataW H → Nat
  | (.string bytes, d) => bytes.length + uptoBulk d + 1
  | (_, d) => uptoBulk d + 1
 end
def uptoSmall : (H : Type) → List (DataW H) → Bool := fun _ ds => decide (uptoBulkAll ds ≤ 1048576)
def OpenSpec.upto (s : _root_.Go.ChangeSpec) : _root_.Go.OpenSpec := { _root_.Go.OpenSpec.ofChange s with cond := some uptoSmall }

/-- 'laws.FnShareSpace', WHERE WHAT IT READS IS OF BULK AT MOST 1048576: true; the input reads as it did. -/
def fnShareSpaceUptoRow : OpenClaim := { program := "ytplgfifbahhpcaa", sum := "966de83f9eeedf2beeac5af637c480774c3e354ab140b767c4509ac3f8d463fd", func := "loop.example/flexlayout/laws.FnShareSpace", spec := "fnShareSpace", unfollowed := true, recurses := true, apart := false, narrowed := true }
def FnShareSpaceUptoSaid : Prop := fnShareSpaceUptoRow.holds Try.pinned (OpenSpec.upto fnShareSpaceSpec)

/-- 'laws.FnShareSpaceNone', WHERE WHAT IT READS IS OF BULK AT MOST 1048576: true; the input reads as it did. -/
def fnShareSpaceNoneUptoRow : OpenClaim := { program := "ytplgfifbahhpcaa", sum := "966de83f9eeedf2beeac5af637c480774c3e354ab140b767c4509ac3f8d463fd", func := "loop.example/flexlayout/laws.FnShareSpaceNone", spec := "fnShareSpaceNone", unfollowed := true, recurses := true, apart := false, narrowed := true }
def FnShareSpaceNoneUptoSaid : Prop := fnShareSpaceNoneUptoRow.holds Try.pinned (OpenSpec.upto fnShareSpaceNoneSpec)

/-- 'laws.FnShareSpaceScale', WHERE WHAT IT READS IS OF BULK AT MOST 1048576: true; the input reads as it did. -/
def fnShareSpaceScaleUptoRow : OpenClaim := { program := "ytplgfifbahhpcaa", sum := "966de83f9eeedf2beeac5af637c480774c3e354ab140b767c4509ac3f8d463fd", func := "loop.example/flexlayout/laws.FnShareSpaceScale", spec := "fnShareSpaceScale", unfollowed := true, recurses := true, apart := false, narrowed := true }
def FnShareSpaceScaleUptoSaid : Prop := fnShareSpaceScaleUptoRow.holds Try.pinned (OpenSpec.upto fnShareSpaceScaleSpec)

/-- 'laws.FnShareSpaceEven', WHERE WHAT IT READS IS OF BULK AT MOST 1048576: true; the input reads as it did. -/
def fnShareSpaceEvenUptoRow : OpenClaim := { program := "ytplgfifbahhpcaa", sum := "966de83f9eeedf2beeac5af637c480774c3e354ab140b767c4509ac3f8d463fd", func := "loop.example/flexlayout/laws.FnShareSpaceEven", spec := "fnShareSpaceEven", unfollowed := true, recurses := true, apart := false, narrowed := true }
def FnShareSpaceEvenUptoSaid : Prop := fnShareSpaceEvenUptoRow.holds Try.pinned (OpenSpec.upto fnShareSpaceEvenSpec)

/-- 'laws.FnExactShareSpace', WHERE WHAT IT READS IS OF BULK AT MOST 1048576: true; the input reads as it did. -/
def fnExactShareSpaceUptoRow : OpenClaim := { program := "ytplgfifbahhpcaa", sum := "966de83f9eeedf2beeac5af637c480774c3e354ab140b767c4509ac3f8d463fd", func := "loop.example/flexlayout/laws.FnExactShareSpace", spec := "fnExactShareSpace", unfollowed := true, recurses := true, apart := false, narrowed := true }
def FnExactShareSpaceUptoSaid : Prop := fnExactShareSpaceUptoRow.holds Try.pinned (OpenSpec.upto fnExactShareSpaceSpec)

/-- 'laws.FnOffsetsOf', WHERE WHAT IT READS IS OF BULK AT MOST 1048576: true; the input reads as it did. -/
def fnOffsetsOfUptoRow : OpenClaim := { program := "ytplgfifbahhpcaa", sum := "966de83f9eeedf2beeac5af637c480774c3e354ab140b767c4509ac3f8d463fd", func := "loop.example/flexlayout/laws.FnOffsetsOf", spec := "fnOffsetsOf", unfollowed := true, recurses := true, apart := false, narrowed := true }
def FnOffsetsOfUptoSaid : Prop := fnOffsetsOfUptoRow.holds Try.pinned (OpenSpec.upto fnOffsetsOfSpec)

/-- 'laws.FnOffsetsOfGap', WHERE WHAT IT READS IS OF BULK AT MOST 1048576: true; the input reads as it did. -/
def fnOffsetsOfGapUptoRow : OpenClaim := { program := "ytplgfifbahhpcaa", sum := "966de83f9eeedf2beeac5af637c480774c3e354ab140b767c4509ac3f8d463fd", func := "loop.example/flexlayout/laws.FnOffsetsOfGap", spec := "fnOffsetsOfGap", unfollowed := true, recurses := true, apart := false, narrowed := true }
def FnOffsetsOfGapUptoSaid : Prop := fnOffsetsOfGapUptoRow.holds Try.pinned (OpenSpec.upto fnOffsetsOfGapSpec)

/-- 'laws.FnOffsetsOfEnd', WHERE WHAT IT READS IS OF BULK AT MOST 1048576: true; the input reads as it did. -/
def fnOffsetsOfEndUptoRow : OpenClaim := { program := "ytplgfifbahhpcaa", sum := "966de83f9eeedf2beeac5af637c480774c3e354ab140b767c4509ac3f8d463fd", func := "loop.example/flexlayout/laws.FnOffsetsOfEnd", spec := "fnOffsetsOfEnd", unfollowed := true, recurses := true, apart := false, narrowed := true }
def FnOffsetsOfEndUptoSaid : Prop := fnOffsetsOfEndUptoRow.holds Try.pinned (OpenSpec.upto fnOffsetsOfEndSpec)

/-- 'laws.FnOffsetsOfFull', WHERE WHAT IT READS IS OF BULK AT MOST 1048576: true; the input reads as it did. -/
def fnOffsetsOfFullUptoRow : OpenClaim := { program := "ytplgfifbahhpcaa", sum := "966de83f9eeedf2beeac5af637c480774c3e354ab140b767c4509ac3f8d463fd", func := "loop.example/flexlayout/laws.FnOffsetsOfFull", spec := "fnOffsetsOfFull", unfollowed := true, recurses := true, apart := false, narrowed := true }
def FnOffsetsOfFullUptoSaid : Prop := fnOffsetsOfFullUptoRow.holds Try.pinned (OpenSpec.upto fnOffsetsOfFullSpec)

/-- 'laws.FnExactOffsetsOf', WHERE WHAT IT READS IS OF BULK AT MOST 1048576: true; the input reads as it did. -/
def fnExactOffsetsOfUptoRow : OpenClaim := { program := "ytplgfifbahhpcaa", sum := "966de83f9eeedf2beeac5af637c480774c3e354ab140b767c4509ac3f8d463fd", func := "loop.example/flexlayout/laws.FnExactOffsetsOf", spec := "fnExactOffsetsOf", unfollowed := true, recurses := true, apart := false, narrowed := true }
def FnExactOffsetsOfUptoSaid : Prop := fnExactOffsetsOfUptoRow.holds Try.pinned (OpenSpec.upto fnExactOffsetsOfSpec)

/-- 'laws.FnExactLeftOver', WHERE WHAT IT READS IS OF BULK AT MOST 1048576: true; the input reads as it did. -/
def fnExactLeftOverUptoRow : OpenClaim := { program := "ytplgfifbahhpcaa", sum := "966de83f9eeedf2beeac5af637c480774c3e354ab140b767c4509ac3f8d463fd", func := "loop.example/flexlayout/laws.FnExactLeftOver", spec := "fnExactLeftOver", unfollowed := true, recurses := true, apart := false, narrowed := true }
def FnExactLeftOverUptoSaid : Prop := fnExactLeftOverUptoRow.holds Try.pinned (OpenSpec.upto fnExactLeftOverSpec)

/-- 'laws.FnExactFlexSizes', WHERE WHAT IT READS IS OF BULK AT MOST 1048576: true; the input reads as it did. -/
def fnExactFlexSizesUptoRow : OpenClaim := { program := "ytplgfifbahhpcaa", sum := "966de83f9eeedf2beeac5af637c480774c3e354ab140b767c4509ac3f8d463fd", func := "loop.example/flexlayout/laws.FnExactFlexSizes", spec := "fnExactFlexSizes", unfollowed := true, recurses := true, apart := false, narrowed := true }
def FnExactFlexSizesUptoSaid : Prop := fnExactFlexSizesUptoRow.holds Try.pinned (OpenSpec.upto fnExactFlexSizesSpec)

end Rows
end Go.Proofs.Ytplgfifbahhpcaa
