/-
  No cell of these rows narrows 'for every input' (looked for: loops, veiled, ifaces, maps, wideKeys, modest, calm, conditions, laid).
  DERIVED. THE GIVEN ROWS OF THIS SEAT. 12 by the template 'for every input the law returns true; each argument reads behind the call as it read before'; 0 by the template 'total and deterministic' (their statements: YtcoddhlfhmelkaaTotals.lean).
  GIVEN WITH THE SEED: the statements are not yours to turn. If you find one false, say at which input.
  Laid BY PROGRAM, IN A SANDBOX (cutbox-rows.mjs): the forced cells as the released guide's own fill.sh prints them over the translation 9129e15950dbc133… (all of the seat's roots in one cut). By AI agents, Wed Nov 11 2026. No macro, syntax, notation, axiom, sorry.
-/
import Derived.Test.YtcoddhlfhmelkaaChecked
import GoSem.Claim
import GoSem.ClaimJoined
import GoSem.ClaimMapViews
import Derived.JoinedTies
import Derived.KernelRfl
namespace Go.Proofs.Ytcoddhlfhmelkaa
/- THE CELL 'sum', in the pinned program and in every row, IS THE sha256 OF THE DUMP (.gsa) THAT YtcoddhlfhmelkaaProg.lean LOADS. Nothing in Lean hashes anything: it is a label: what it is worth is what the hold of that sum in a sandbox is worth. -/
noncomputable def Try.pinned : Pinned := { name := "ytcoddhlfhmelkaa", sum := "9129e15950dbc1338fe7d544a64d374d2d5f5bc90aa3e7af379fc6d5a2075e5d", checked := Try.checked }
namespace Rows
def none {H : Type} : Left H := { results := [], args := [] }

/-- 'laws.FnOffsetsOf': WHATEVER THE INPUT: true; the input reads as it did. -/
def fnOffsetsOfSpec : ChangeSpec := { name := "fnOffsetsOf", fn := fun _ => fun
  | [d] => { results := [.lit (.bool true)], args := [d] }
  | _ => none }
def fnOffsetsOfRow : OpenClaim := { program := "ytcoddhlfhmelkaa", sum := "9129e15950dbc1338fe7d544a64d374d2d5f5bc90aa3e7af379fc6d5a2075e5d", func := "loop.example/flexlayout/laws.FnOffsetsOf", spec := "fnOffsetsOf", unfollowed := true, recurses := true, apart := false }
def FnOffsetsOfSaid : Prop := fnOffsetsOfRow.holds Try.pinned (OpenSpec.ofChange fnOffsetsOfSpec)

/-- ITS FALSE NEIGHBOUR: 'it returns false'. Refute it at one input. -/
def fnOffsetsOfWrong : ChangeSpec := { name := "fnOffsetsOf", fn := fun _ => fun
  | [d] => { results := [.lit (.bool false)], args := [d] }
  | _ => none }
def FnOffsetsOfWrongFalsely : Prop := fnOffsetsOfRow.holds Try.pinned (OpenSpec.ofChange fnOffsetsOfWrong)

/-- 'laws.FnOffsetsOfEnd': WHATEVER THE INPUT: true; the input reads as it did. -/
def fnOffsetsOfEndSpec : ChangeSpec := { name := "fnOffsetsOfEnd", fn := fun _ => fun
  | [d] => { results := [.lit (.bool true)], args := [d] }
  | _ => none }
def fnOffsetsOfEndRow : OpenClaim := { program := "ytcoddhlfhmelkaa", sum := "9129e15950dbc1338fe7d544a64d374d2d5f5bc90aa3e7af379fc6d5a2075e5d", func := "loop.example/flexlayout/laws.FnOffsetsOfEnd", spec := "fnOffsetsOfEnd", unfollowed := true, recurses := true, apart := false }
def FnOffsetsOfEndSaid : Prop := fnOffsetsOfEndRow.holds Try.pinned (OpenSpec.ofChange fnOffsetsOfEndSpec)

/-- ITS FALSE NEIGHBOUR: 'it returns false'. Refute it at one input. -/
def fnOffsetsOfEndWrong : ChangeSpec := { name := "fnOffsetsOfEnd", fn := fun _ => fun
  | [d] => { results := [.lit (.bool false)], args := [d] }
  | _ => none }
def FnOffsetsOfEndWrongFalsely : Prop := fnOffsetsOfEndRow.holds Try.pinned (OpenSpec.ofChange fnOffsetsOfEndWrong)

/-- 'laws.FnOffsetsOfFull': WHATEVER THE INPUT: true; the input reads as it did. -/
def fnOffsetsOfFullSpec : ChangeSpec := { name := "fnOffsetsOfFull", fn := fun _ => fun
  | [d] => { results := [.lit (.bool true)], args := [d] }
  | _ => none }
def fnOffsetsOfFullRow : OpenClaim := { program := "ytcoddhlfhmelkaa", sum := "9129e15950dbc1338fe7d544a64d374d2d5f5bc90aa3e7af379fc6d5a2075e5d", func := "loop.example/flexlayout/laws.FnOffsetsOfFull", spec := "fnOffsetsOfFull", unfollowed := true, recurses := true, apart := false }
def FnOffsetsOfFullSaid : Prop := fnOffsetsOfFullRow.holds Try.pinned (OpenSpec.ofChange fnOffsetsOfFullSpec)

/-- ITS FALSE NEIGHBOUR: 'it returns false'. Refute it at one input. -/
def fnOffsetsOfFullWrong : ChangeSpec := { name := "fnOffsetsOfFull", fn := fun _ => fun
  | [d] => { results := [.lit (.bool false)], args := [d] }
  | _ => none }
def FnOffsetsOfFullWrongFalsely : Prop := fnOffsetsOfFullRow.holds Try.pinned (OpenSpec.ofChange fnOffsetsOfFullWrong)

/-- 'laws.FnOffsetsOfGap': WHATEVER THE INPUT: true; the input reads as it did. -/
def fnOffsetsOfGapSpec : ChangeSpec := { name := "fnOffsetsOfGap", fn := fun _ => fun
  | [d] => { results := [.lit (.bool true)], args := [d] }
  | _ => none }
def fnOffsetsOfGapRow : OpenClaim := { program := "ytcoddhlfhmelkaa", sum := "9129e15950dbc1338fe7d544a64d374d2d5f5bc90aa3e7af379fc6d5a2075e5d", func := "loop.example/flexlayout/laws.FnOffsetsOfGap", spec := "fnOffsetsOfGap", unfollowed := true, recurses := true, apart := false }
def FnOffsetsOfGapSaid : Prop := fnOffsetsOfGapRow.holds Try.pinned (OpenSpec.ofChange fnOffsetsOfGapSpec)

/-- ITS FALSE NEIGHBOUR: 'it returns false'. Refute it at one input. -/
def fnOffsetsOfGapWrong : ChangeSpec := { name := "fnOffsetsOfGap", fn := fun _ => fun
  | [d] => { results := [.lit (.bool false)], args := [d] }
  | _ => none }
def FnOffsetsOfGapWrongFalsely : Prop := fnOffsetsOfGapRow.holds Try.pinned (OpenSpec.ofChange fnOffsetsOfGapWrong)

/-- 'laws.FnExactOffsetsOf': WHATEVER THE INPUT: true; the input reads as it did. -/
def fnExactOffsetsOfSpec : ChangeSpec := { name := "fnExactOffsetsOf", fn := fun _ => fun
  | [d1, d2, d3, d4] => { results := [.lit (.bool true)], args := [d1, d2, d3, d4] }
  | _ => none }
def fnExactOffsetsOfRow : OpenClaim := { program := "ytcoddhlfhmelkaa", sum := "9129e15950dbc1338fe7d544a64d374d2d5f5bc90aa3e7af379fc6d5a2075e5d", func := "loop.example/flexlayout/laws.FnExactOffsetsOf", spec := "fnExactOffsetsOf", unfollowed := true, recurses := true, apart := false }
def FnExactOffsetsOfSaid : Prop := fnExactOffsetsOfRow.holds Try.pinned (OpenSpec.ofChange fnExactOffsetsOfSpec)

/-- ITS FALSE NEIGHBOUR: 'it returns false'. Refute it at one input. -/
def fnExactOffsetsOfWrong : ChangeSpec := { name := "fnExactOffsetsOf", fn := fun _ => fun
  | [d1, d2, d3, d4] => { results := [.lit (.bool false)], args := [d1, d2, d3, d4] }
  | _ => none }
def FnExactOffsetsOfWrongFalsely : Prop := fnExactOffsetsOfRow.holds Try.pinned (OpenSpec.ofChange fnExactOffsetsOfWrong)

/-- 'laws.FnTrackSizes': WHATEVER THE INPUT: true; the input reads as it did. -/
def fnTrackSizesSpec : ChangeSpec := { name := "fnTrackSizes", fn := fun _ => fun
  | [d] => { results := [.lit (.bool true)], args := [d] }
  | _ => none }
def fnTrackSizesRow : OpenClaim := { program := "ytcoddhlfhmelkaa", sum := "9129e15950dbc1338fe7d544a64d374d2d5f5bc90aa3e7af379fc6d5a2075e5d", func := "loop.example/flexlayout/laws.FnTrackSizes", spec := "fnTrackSizes", unfollowed := true, recurses := true, apart := false }
def FnTrackSizesSaid : Prop := fnTrackSizesRow.holds Try.pinned (OpenSpec.ofChange fnTrackSizesSpec)

/-- ITS FALSE NEIGHBOUR: 'it returns false'. Refute it at one input. -/
def fnTrackSizesWrong : ChangeSpec := { name := "fnTrackSizes", fn := fun _ => fun
  | [d] => { results := [.lit (.bool false)], args := [d] }
  | _ => none }
def FnTrackSizesWrongFalsely : Prop := fnTrackSizesRow.holds Try.pinned (OpenSpec.ofChange fnTrackSizesWrong)

/-- 'laws.FnTrackSizesPart': WHATEVER THE INPUT: true; the input reads as it did. -/
def fnTrackSizesPartSpec : ChangeSpec := { name := "fnTrackSizesPart", fn := fun _ => fun
  | [d] => { results := [.lit (.bool true)], args := [d] }
  | _ => none }
def fnTrackSizesPartRow : OpenClaim := { program := "ytcoddhlfhmelkaa", sum := "9129e15950dbc1338fe7d544a64d374d2d5f5bc90aa3e7af379fc6d5a2075e5d", func := "loop.example/flexlayout/laws.FnTrackSizesPart", spec := "fnTrackSizesPart", unfollowed := true, recurses := true, apart := false }
def FnTrackSizesPartSaid : Prop := fnTrackSizesPartRow.holds Try.pinned (OpenSpec.ofChange fnTrackSizesPartSpec)

/-- ITS FALSE NEIGHBOUR: 'it returns false'. Refute it at one input. -/
def fnTrackSizesPartWrong : ChangeSpec := { name := "fnTrackSizesPart", fn := fun _ => fun
  | [d] => { results := [.lit (.bool false)], args := [d] }
  | _ => none }
def FnTrackSizesPartWrongFalsely : Prop := fnTrackSizesPartRow.holds Try.pinned (OpenSpec.ofChange fnTrackSizesPartWrong)

/-- 'laws.FnSpanOf': WHATEVER THE INPUT: true; the input reads as it did. -/
def fnSpanOfSpec : ChangeSpec := { name := "fnSpanOf", fn := fun _ => fun
  | [d] => { results := [.lit (.bool true)], args := [d] }
  | _ => none }
def fnSpanOfRow : OpenClaim := { program := "ytcoddhlfhmelkaa", sum := "9129e15950dbc1338fe7d544a64d374d2d5f5bc90aa3e7af379fc6d5a2075e5d", func := "loop.example/flexlayout/laws.FnSpanOf", spec := "fnSpanOf", unfollowed := true, recurses := true, apart := false }
def FnSpanOfSaid : Prop := fnSpanOfRow.holds Try.pinned (OpenSpec.ofChange fnSpanOfSpec)

/-- ITS FALSE NEIGHBOUR: 'it returns false'. Refute it at one input. -/
def fnSpanOfWrong : ChangeSpec := { name := "fnSpanOf", fn := fun _ => fun
  | [d] => { results := [.lit (.bool false)], args := [d] }
  | _ => none }
def FnSpanOfWrongFalsely : Prop := fnSpanOfRow.holds Try.pinned (OpenSpec.ofChange fnSpanOfWrong)

/-- 'laws.FnSpanOfNext': WHATEVER THE INPUT: true; the input reads as it did. -/
def fnSpanOfNextSpec : ChangeSpec := { name := "fnSpanOfNext", fn := fun _ => fun
  | [d] => { results := [.lit (.bool true)], args := [d] }
  | _ => none }
def fnSpanOfNextRow : OpenClaim := { program := "ytcoddhlfhmelkaa", sum := "9129e15950dbc1338fe7d544a64d374d2d5f5bc90aa3e7af379fc6d5a2075e5d", func := "loop.example/flexlayout/laws.FnSpanOfNext", spec := "fnSpanOfNext", unfollowed := true, recurses := true, apart := false }
def FnSpanOfNextSaid : Prop := fnSpanOfNextRow.holds Try.pinned (OpenSpec.ofChange fnSpanOfNextSpec)

/-- ITS FALSE NEIGHBOUR: 'it returns false'. Refute it at one input. -/
def fnSpanOfNextWrong : ChangeSpec := { name := "fnSpanOfNext", fn := fun _ => fun
  | [d] => { results := [.lit (.bool false)], args := [d] }
  | _ => none }
def FnSpanOfNextWrongFalsely : Prop := fnSpanOfNextRow.holds Try.pinned (OpenSpec.ofChange fnSpanOfNextWrong)

/-- 'laws.FnTrackSizesMore': WHATEVER THE INPUT: true; the input reads as it did. -/
def fnTrackSizesMoreSpec : ChangeSpec := { name := "fnTrackSizesMore", fn := fun _ => fun
  | [d] => { results := [.lit (.bool true)], args := [d] }
  | _ => none }
def fnTrackSizesMoreRow : OpenClaim := { program := "ytcoddhlfhmelkaa", sum := "9129e15950dbc1338fe7d544a64d374d2d5f5bc90aa3e7af379fc6d5a2075e5d", func := "loop.example/flexlayout/laws.FnTrackSizesMore", spec := "fnTrackSizesMore", unfollowed := true, recurses := true, apart := false }
def FnTrackSizesMoreSaid : Prop := fnTrackSizesMoreRow.holds Try.pinned (OpenSpec.ofChange fnTrackSizesMoreSpec)

/-- ITS FALSE NEIGHBOUR: 'it returns false'. Refute it at one input. -/
def fnTrackSizesMoreWrong : ChangeSpec := { name := "fnTrackSizesMore", fn := fun _ => fun
  | [d] => { results := [.lit (.bool false)], args := [d] }
  | _ => none }
def FnTrackSizesMoreWrongFalsely : Prop := fnTrackSizesMoreRow.holds Try.pinned (OpenSpec.ofChange fnTrackSizesMoreWrong)

/-- 'laws.FnSpanOfAll': WHATEVER THE INPUT: true; the input reads as it did. -/
def fnSpanOfAllSpec : ChangeSpec := { name := "fnSpanOfAll", fn := fun _ => fun
  | [d] => { results := [.lit (.bool true)], args := [d] }
  | _ => none }
def fnSpanOfAllRow : OpenClaim := { program := "ytcoddhlfhmelkaa", sum := "9129e15950dbc1338fe7d544a64d374d2d5f5bc90aa3e7af379fc6d5a2075e5d", func := "loop.example/flexlayout/laws.FnSpanOfAll", spec := "fnSpanOfAll", unfollowed := true, recurses := true, apart := false }
def FnSpanOfAllSaid : Prop := fnSpanOfAllRow.holds Try.pinned (OpenSpec.ofChange fnSpanOfAllSpec)

/-- ITS FALSE NEIGHBOUR: 'it returns false'. Refute it at one input. -/
def fnSpanOfAllWrong : ChangeSpec := { name := "fnSpanOfAll", fn := fun _ => fun
  | [d] => { results := [.lit (.bool false)], args := [d] }
  | _ => none }
def FnSpanOfAllWrongFalsely : Prop := fnSpanOfAllRow.holds Try.pinned (OpenSpec.ofChange fnSpanOfAllWrong)

/-- 'laws.FnAutoPlaces': WHATEVER THE INPUT: true; the input reads as it did. -/
def fnAutoPlacesSpec : ChangeSpec := { name := "fnAutoPlaces", fn := fun _ => fun
  | [d] => { results := [.lit (.bool true)], args := [d] }
  | _ => none }
def fnAutoPlacesRow : OpenClaim := { program := "ytcoddhlfhmelkaa", sum := "9129e15950dbc1338fe7d544a64d374d2d5f5bc90aa3e7af379fc6d5a2075e5d", func := "loop.example/flexlayout/laws.FnAutoPlaces", spec := "fnAutoPlaces", apart := false }
def FnAutoPlacesSaid : Prop := fnAutoPlacesRow.holds Try.pinned (OpenSpec.ofChange fnAutoPlacesSpec)

/-- ITS FALSE NEIGHBOUR: 'it returns false'. Refute it at one input. -/
def fnAutoPlacesWrong : ChangeSpec := { name := "fnAutoPlaces", fn := fun _ => fun
  | [d] => { results := [.lit (.bool false)], args := [d] }
  | _ => none }
def FnAutoPlacesWrongFalsely : Prop := fnAutoPlacesRow.holds Try.pinned (OpenSpec.ofChange fnAutoPlacesWrong)

/- THE SECOND FORM. 'bulk': how many values and letters a reading holds, each counted each time it is reached (what is shared counts as often as it is met; a slice's spare places count too). A statement '..UptoSaid' is the law's where the arguments, and the package variables that the reading takes, are together of bulk at most 1048576: NARROWER than '..Said'. Prove '..Said' where nothing that the law and all that it calls make is longer than what came in: it says more and counts as full. Else prove '..UptoSaid'. A law counts once. -/
mutual
def uptoBulk {H : Type} : DataW H → Nat
  | .lit (.string bytes) => bytes.length + 1
  | .lit _ => 1
  | .nil => 1
  | .ptr d => uptoBulk d + 1
  | .slice elems spare => uptoBulkAll elems + uptoBulkAll spare + 1
  | .agg parts => uptoBulkAll parts + 1
  | .iface _ d => uptoBulk d + 1
  | .map entries => uptoBulkEntries entries + 1
  | .held _ => 1
def uptoBulkAll {H : Type} : List (DataW H) → Nat
  | [] => 0
  | d :: r => uptoBulk d + uptoBulkAll r
def uptoBulkEntries {H : Type} : List (Lit × DataW H) → Nat
  | [] => 0
  | x :: r => uptoBulkEntry x + uptoBulkEntries r
def uptoBulkEntry {H : Type} : Lit × DataW H → Nat
  | (.string bytes, d) => bytes.length + uptoBulk d + 1
  | (_, d) => uptoBulk d + 1
 end
def uptoSmall : (H : Type) → List (DataW H) → Bool := fun _ ds => decide (uptoBulkAll ds ≤ 1048576)
def OpenSpec.upto (s : _root_.Go.ChangeSpec) : _root_.Go.OpenSpec := { _root_.Go.OpenSpec.ofChange s with cond := some uptoSmall }

/-- 'laws.FnOffsetsOf', WHERE WHAT IT READS IS OF BULK AT MOST 1048576: true; the input reads as it did. -/
def fnOffsetsOfUptoRow : OpenClaim := { program := "ytcoddhlfhmelkaa", sum := "9129e15950dbc1338fe7d544a64d374d2d5f5bc90aa3e7af379fc6d5a2075e5d", func := "loop.example/flexlayout/laws.FnOffsetsOf", spec := "fnOffsetsOf", unfollowed := true, recurses := true, apart := false, narrowed := true }
def FnOffsetsOfUptoSaid : Prop := fnOffsetsOfUptoRow.holds Try.pinned (OpenSpec.upto fnOffsetsOfSpec)

/-- 'laws.FnOffsetsOfEnd', WHERE WHAT IT READS IS OF BULK AT MOST 1048576: true; the input reads as it did. -/
def fnOffsetsOfEndUptoRow : OpenClaim := { program := "ytcoddhlfhmelkaa", sum := "9129e15950dbc1338fe7d544a64d374d2d5f5bc90aa3e7af379fc6d5a2075e5d", func := "loop.example/flexlayout/laws.FnOffsetsOfEnd", spec := "fnOffsetsOfEnd", unfollowed := true, recurses := true, apart := false, narrowed := true }
def FnOffsetsOfEndUptoSaid : Prop := fnOffsetsOfEndUptoRow.holds Try.pinned (OpenSpec.upto fnOffsetsOfEndSpec)

/-- 'laws.FnOffsetsOfFull', WHERE WHAT IT READS IS OF BULK AT MOST 1048576: true; the input reads as it did. -/
def fnOffsetsOfFullUptoRow : OpenClaim := { program := "ytcoddhlfhmelkaa", sum := "9129e15950dbc1338fe7d544a64d374d2d5f5bc90aa3e7af379fc6d5a2075e5d", func := "loop.example/flexlayout/laws.FnOffsetsOfFull", spec := "fnOffsetsOfFull", unfollowed := true, recurses := true, apart := false, narrowed := true }
def FnOffsetsOfFullUptoSaid : Prop := fnOffsetsOfFullUptoRow.holds Try.pinned (OpenSpec.upto fnOffsetsOfFullSpec)

/-- 'laws.FnOffsetsOfGap', WHERE WHAT IT READS IS OF BULK AT MOST 1048576: true; the input reads as it did. -/
def fnOffsetsOfGapUptoRow : OpenClaim := { program := "ytcoddhlfhmelkaa", sum := "9129e15950dbc1338fe7d544a64d374d2d5f5bc90aa3e7af379fc6d5a2075e5d", func := "loop.example/flexlayout/laws.FnOffsetsOfGap", spec := "fnOffsetsOfGap", unfollowed := true, recurses := true, apart := false, narrowed := true }
def FnOffsetsOfGapUptoSaid : Prop := fnOffsetsOfGapUptoRow.holds Try.pinned (OpenSpec.upto fnOffsetsOfGapSpec)

/-- 'laws.FnExactOffsetsOf', WHERE WHAT IT READS IS OF BULK AT MOST 1048576: true; the input reads as it did. -/
def fnExactOffsetsOfUptoRow : OpenClaim := { program := "ytcoddhlfhmelkaa", sum := "9129e15950dbc1338fe7d544a64d374d2d5f5bc90aa3e7af379fc6d5a2075e5d", func := "loop.example/flexlayout/laws.FnExactOffsetsOf", spec := "fnExactOffsetsOf", unfollowed := true, recurses := true, apart := false, narrowed := true }
def FnExactOffsetsOfUptoSaid : Prop := fnExactOffsetsOfUptoRow.holds Try.pinned (OpenSpec.upto fnExactOffsetsOfSpec)

/-- 'laws.FnTrackSizes', WHERE WHAT IT READS IS OF BULK AT MOST 1048576: true; the input reads as it did. -/
def fnTrackSizesUptoRow : OpenClaim := { program := "ytcoddhlfhmelkaa", sum := "9129e15950dbc1338fe7d544a64d374d2d5f5bc90aa3e7af379fc6d5a2075e5d", func := "loop.example/flexlayout/laws.FnTrackSizes", spec := "fnTrackSizes", unfollowed := true, recurses := true, apart := false, narrowed := true }
def FnTrackSizesUptoSaid : Prop := fnTrackSizesUptoRow.holds Try.pinned (OpenSpec.upto fnTrackSizesSpec)

/-- 'laws.FnTrackSizesPart', WHERE WHAT IT READS IS OF BULK AT MOST 1048576: true; the input reads as it did. -/
def fnTrackSizesPartUptoRow : OpenClaim := { program := "ytcoddhlfhmelkaa", sum := "9129e15950dbc1338fe7d544a64d374d2d5f5bc90aa3e7af379fc6d5a2075e5d", func := "loop.example/flexlayout/laws.FnTrackSizesPart", spec := "fnTrackSizesPart", unfollowed := true, recurses := true, apart := false, narrowed := true }
def FnTrackSizesPartUptoSaid : Prop := fnTrackSizesPartUptoRow.holds Try.pinned (OpenSpec.upto fnTrackSizesPartSpec)

/-- 'laws.FnSpanOf', WHERE WHAT IT READS IS OF BULK AT MOST 1048576: true; the input reads as it did. -/
def fnSpanOfUptoRow : OpenClaim := { program := "ytcoddhlfhmelkaa", sum := "9129e15950dbc1338fe7d544a64d374d2d5f5bc90aa3e7af379fc6d5a2075e5d", func := "loop.example/flexlayout/laws.FnSpanOf", spec := "fnSpanOf", unfollowed := true, recurses := true, apart := false, narrowed := true }
def FnSpanOfUptoSaid : Prop := fnSpanOfUptoRow.holds Try.pinned (OpenSpec.upto fnSpanOfSpec)

/-- 'laws.FnSpanOfNext', WHERE WHAT IT READS IS OF BULK AT MOST 1048576: true; the input reads as it did. -/
def fnSpanOfNextUptoRow : OpenClaim := { program := "ytcoddhlfhmelkaa", sum := "9129e15950dbc1338fe7d544a64d374d2d5f5bc90aa3e7af379fc6d5a2075e5d", func := "loop.example/flexlayout/laws.FnSpanOfNext", spec := "fnSpanOfNext", unfollowed := true, recurses := true, apart := false, narrowed := true }
def FnSpanOfNextUptoSaid : Prop := fnSpanOfNextUptoRow.holds Try.pinned (OpenSpec.upto fnSpanOfNextSpec)

/-- 'laws.FnTrackSizesMore', WHERE WHAT IT READS IS OF BULK AT MOST 1048576: true; the input reads as it did. -/
def fnTrackSizesMoreUptoRow : OpenClaim := { program := "ytcoddhlfhmelkaa", sum := "9129e15950dbc1338fe7d544a64d374d2d5f5bc90aa3e7af379fc6d5a2075e5d", func := "loop.example/flexlayout/laws.FnTrackSizesMore", spec := "fnTrackSizesMore", unfollowed := true, recurses := true, apart := false, narrowed := true }
def FnTrackSizesMoreUptoSaid : Prop := fnTrackSizesMoreUptoRow.holds Try.pinned (OpenSpec.upto fnTrackSizesMoreSpec)

/-- 'laws.FnSpanOfAll', WHERE WHAT IT READS IS OF BULK AT MOST 1048576: true; the input reads as it did. -/
def fnSpanOfAllUptoRow : OpenClaim := { program := "ytcoddhlfhmelkaa", sum := "9129e15950dbc1338fe7d544a64d374d2d5f5bc90aa3e7af379fc6d5a2075e5d", func := "loop.example/flexlayout/laws.FnSpanOfAll", spec := "fnSpanOfAll", unfollowed := true, recurses := true, apart := false, narrowed := true }
def FnSpanOfAllUptoSaid : Prop := fnSpanOfAllUptoRow.holds Try.pinned (OpenSpec.upto fnSpanOfAllSpec)

/-- 'laws.FnAutoPlaces', WHERE WHAT IT READS IS OF BULK AT MOST 1048576: true; the input reads as it did. -/
def fnAutoPlacesUptoRow : OpenClaim := { program := "ytcoddhlfhmelkaa", sum := "9129e15950dbc1338fe7d544a64d374d2d5f5bc90aa3e7af379fc6d5a2075e5d", func := "loop.example/flexlayout/laws.FnAutoPlaces", spec := "fnAutoPlaces", apart := false, narrowed := true }
def FnAutoPlacesUptoSaid : Prop := fnAutoPlacesUptoRow.holds Try.pinned (OpenSpec.upto fnAutoPlacesSpec)

end Rows
end Go.Proofs.Ytcoddhlfhmelkaa
