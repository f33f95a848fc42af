/-
  No cell of these rows narrows 'for every input' (looked for: loops, veiled, ifaces, maps, wideKeys, modest, calm, conditions, laid).
  DERIVED. THE GIVEN ROWS OF THIS SEAT. 12 by the template 'for every input the law returns true; each argument reads behind the call as it read before'; 0 by the template 'total and deterministic' (their statements: YtlimhpfckedmpaaTotals.lean).
  GIVEN WITH THE SEED: the statements are not yours to turn. If you find one false, say at which input.
  Laid BY PROGRAM, IN A SANDBOX (cutbox-rows.mjs): the forced cells as the released guide's own fill.sh prints them over the translation 4ab9f74379caf843… (all of the seat's roots in one cut). By AI agents, Wed Nov 11 2026. No macro, syntax, notation, axiom, sorry.
-/
import Derived.Test.YtlimhpfckedmpaaChecked
import GoSem.Claim
import GoSem.ClaimJoined
import GoSem.ClaimMapViews
import Derived.JoinedTies
import Derived.KernelRfl
namespace Go.Proofs.Ytlimhpfckedmpaa
/- THE CELL 'sum', in the pinned program and in every row, IS THE sha256 OF THE DUMP (.gsa) THAT YtlimhpfckedmpaaProg.lean LOADS. Nothing in Lean hashes anything: it is a label: what it is worth is what the hold of that sum in a sandbox is worth. -/
noncomputable def Try.pinned : Pinned := { name := "ytlimhpfckedmpaa", sum := "4ab9f74379caf8432418757cc08b44ff05ad9338b833fb32ac7ab71b9acf229e", checked := Try.checked }
namespace Rows
def none {H : Type} : Left H := { results := [], args := [] }

/-- 'laws.FnMeetRects': WHATEVER THE INPUT: true; the input reads as it did. -/
def fnMeetRectsSpec : ChangeSpec := { name := "fnMeetRects", fn := fun _ => fun
  | [d] => { results := [.lit (.bool true)], args := [d] }
  | _ => none }
def fnMeetRectsRow : OpenClaim := { program := "ytlimhpfckedmpaa", sum := "4ab9f74379caf8432418757cc08b44ff05ad9338b833fb32ac7ab71b9acf229e", func := "loop.example/flexlayout/laws.FnMeetRects", spec := "fnMeetRects", apart := false }
def FnMeetRectsSaid : Prop := fnMeetRectsRow.holds Try.pinned (OpenSpec.ofChange fnMeetRectsSpec)

/-- ITS FALSE NEIGHBOUR: 'it returns false'. Refute it at one input. -/
def fnMeetRectsWrong : ChangeSpec := { name := "fnMeetRects", fn := fun _ => fun
  | [d] => { results := [.lit (.bool false)], args := [d] }
  | _ => none }
def FnMeetRectsWrongFalsely : Prop := fnMeetRectsRow.holds Try.pinned (OpenSpec.ofChange fnMeetRectsWrong)

/-- 'laws.FnHullOf': WHATEVER THE INPUT: true; the input reads as it did. -/
def fnHullOfSpec : ChangeSpec := { name := "fnHullOf", fn := fun _ => fun
  | [d] => { results := [.lit (.bool true)], args := [d] }
  | _ => none }
def fnHullOfRow : OpenClaim := { program := "ytlimhpfckedmpaa", sum := "4ab9f74379caf8432418757cc08b44ff05ad9338b833fb32ac7ab71b9acf229e", func := "loop.example/flexlayout/laws.FnHullOf", spec := "fnHullOf", apart := false }
def FnHullOfSaid : Prop := fnHullOfRow.holds Try.pinned (OpenSpec.ofChange fnHullOfSpec)

/-- ITS FALSE NEIGHBOUR: 'it returns false'. Refute it at one input. -/
def fnHullOfWrong : ChangeSpec := { name := "fnHullOf", fn := fun _ => fun
  | [d] => { results := [.lit (.bool false)], args := [d] }
  | _ => none }
def FnHullOfWrongFalsely : Prop := fnHullOfRow.holds Try.pinned (OpenSpec.ofChange fnHullOfWrong)

/-- 'laws.FnFlexSizes': WHATEVER THE INPUT: true; the input reads as it did. -/
def fnFlexSizesSpec : ChangeSpec := { name := "fnFlexSizes", fn := fun _ => fun
  | [d] => { results := [.lit (.bool true)], args := [d] }
  | _ => none }
def fnFlexSizesRow : OpenClaim := { program := "ytlimhpfckedmpaa", sum := "4ab9f74379caf8432418757cc08b44ff05ad9338b833fb32ac7ab71b9acf229e", func := "loop.example/flexlayout/laws.FnFlexSizes", spec := "fnFlexSizes", unfollowed := true, recurses := true, apart := false }
def FnFlexSizesSaid : Prop := fnFlexSizesRow.holds Try.pinned (OpenSpec.ofChange fnFlexSizesSpec)

/-- ITS FALSE NEIGHBOUR: 'it returns false'. Refute it at one input. -/
def fnFlexSizesWrong : ChangeSpec := { name := "fnFlexSizes", fn := fun _ => fun
  | [d] => { results := [.lit (.bool false)], args := [d] }
  | _ => none }
def FnFlexSizesWrongFalsely : Prop := fnFlexSizesRow.holds Try.pinned (OpenSpec.ofChange fnFlexSizesWrong)

/-- 'laws.FnFlexSizesFill': WHATEVER THE INPUT: true; the input reads as it did. -/
def fnFlexSizesFillSpec : ChangeSpec := { name := "fnFlexSizesFill", fn := fun _ => fun
  | [d] => { results := [.lit (.bool true)], args := [d] }
  | _ => none }
def fnFlexSizesFillRow : OpenClaim := { program := "ytlimhpfckedmpaa", sum := "4ab9f74379caf8432418757cc08b44ff05ad9338b833fb32ac7ab71b9acf229e", func := "loop.example/flexlayout/laws.FnFlexSizesFill", spec := "fnFlexSizesFill", unfollowed := true, recurses := true, apart := false }
def FnFlexSizesFillSaid : Prop := fnFlexSizesFillRow.holds Try.pinned (OpenSpec.ofChange fnFlexSizesFillSpec)

/-- ITS FALSE NEIGHBOUR: 'it returns false'. Refute it at one input. -/
def fnFlexSizesFillWrong : ChangeSpec := { name := "fnFlexSizesFill", fn := fun _ => fun
  | [d] => { results := [.lit (.bool false)], args := [d] }
  | _ => none }
def FnFlexSizesFillWrongFalsely : Prop := fnFlexSizesFillRow.holds Try.pinned (OpenSpec.ofChange fnFlexSizesFillWrong)

/-- 'laws.FnFlexSizesBase': WHATEVER THE INPUT: true; the input reads as it did. -/
def fnFlexSizesBaseSpec : ChangeSpec := { name := "fnFlexSizesBase", fn := fun _ => fun
  | [d] => { results := [.lit (.bool true)], args := [d] }
  | _ => none }
def fnFlexSizesBaseRow : OpenClaim := { program := "ytlimhpfckedmpaa", sum := "4ab9f74379caf8432418757cc08b44ff05ad9338b833fb32ac7ab71b9acf229e", func := "loop.example/flexlayout/laws.FnFlexSizesBase", spec := "fnFlexSizesBase", unfollowed := true, recurses := true, apart := false }
def FnFlexSizesBaseSaid : Prop := fnFlexSizesBaseRow.holds Try.pinned (OpenSpec.ofChange fnFlexSizesBaseSpec)

/-- ITS FALSE NEIGHBOUR: 'it returns false'. Refute it at one input. -/
def fnFlexSizesBaseWrong : ChangeSpec := { name := "fnFlexSizesBase", fn := fun _ => fun
  | [d] => { results := [.lit (.bool false)], args := [d] }
  | _ => none }
def FnFlexSizesBaseWrongFalsely : Prop := fnFlexSizesBaseRow.holds Try.pinned (OpenSpec.ofChange fnFlexSizesBaseWrong)

/-- 'laws.FnLeftOver': WHATEVER THE INPUT: true; the input reads as it did. -/
def fnLeftOverSpec : ChangeSpec := { name := "fnLeftOver", fn := fun _ => fun
  | [d] => { results := [.lit (.bool true)], args := [d] }
  | _ => none }
def fnLeftOverRow : OpenClaim := { program := "ytlimhpfckedmpaa", sum := "4ab9f74379caf8432418757cc08b44ff05ad9338b833fb32ac7ab71b9acf229e", func := "loop.example/flexlayout/laws.FnLeftOver", spec := "fnLeftOver", unfollowed := true, recurses := true, apart := false }
def FnLeftOverSaid : Prop := fnLeftOverRow.holds Try.pinned (OpenSpec.ofChange fnLeftOverSpec)

/-- ITS FALSE NEIGHBOUR: 'it returns false'. Refute it at one input. -/
def fnLeftOverWrong : ChangeSpec := { name := "fnLeftOver", fn := fun _ => fun
  | [d] => { results := [.lit (.bool false)], args := [d] }
  | _ => none }
def FnLeftOverWrongFalsely : Prop := fnLeftOverRow.holds Try.pinned (OpenSpec.ofChange fnLeftOverWrong)

/-- 'laws.FnLeftOverGrow': WHATEVER THE INPUT: true; the input reads as it did. -/
def fnLeftOverGrowSpec : ChangeSpec := { name := "fnLeftOverGrow", fn := fun _ => fun
  | [d] => { results := [.lit (.bool true)], args := [d] }
  | _ => none }
def fnLeftOverGrowRow : OpenClaim := { program := "ytlimhpfckedmpaa", sum := "4ab9f74379caf8432418757cc08b44ff05ad9338b833fb32ac7ab71b9acf229e", func := "loop.example/flexlayout/laws.FnLeftOverGrow", spec := "fnLeftOverGrow", unfollowed := true, recurses := true, apart := false }
def FnLeftOverGrowSaid : Prop := fnLeftOverGrowRow.holds Try.pinned (OpenSpec.ofChange fnLeftOverGrowSpec)

/-- ITS FALSE NEIGHBOUR: 'it returns false'. Refute it at one input. -/
def fnLeftOverGrowWrong : ChangeSpec := { name := "fnLeftOverGrow", fn := fun _ => fun
  | [d] => { results := [.lit (.bool false)], args := [d] }
  | _ => none }
def FnLeftOverGrowWrongFalsely : Prop := fnLeftOverGrowRow.holds Try.pinned (OpenSpec.ofChange fnLeftOverGrowWrong)

/-- 'laws.FnOffsetsOfEnd': WHATEVER THE INPUT: true; the input reads as it did. -/
def fnOffsetsOfEndSpec : ChangeSpec := { name := "fnOffsetsOfEnd", fn := fun _ => fun
  | [d] => { results := [.lit (.bool true)], args := [d] }
  | _ => none }
def fnOffsetsOfEndRow : OpenClaim := { program := "ytlimhpfckedmpaa", sum := "4ab9f74379caf8432418757cc08b44ff05ad9338b833fb32ac7ab71b9acf229e", func := "loop.example/flexlayout/laws.FnOffsetsOfEnd", spec := "fnOffsetsOfEnd", unfollowed := true, recurses := true, apart := false }
def FnOffsetsOfEndSaid : Prop := fnOffsetsOfEndRow.holds Try.pinned (OpenSpec.ofChange fnOffsetsOfEndSpec)

/-- ITS FALSE NEIGHBOUR: 'it returns false'. Refute it at one input. -/
def fnOffsetsOfEndWrong : ChangeSpec := { name := "fnOffsetsOfEnd", fn := fun _ => fun
  | [d] => { results := [.lit (.bool false)], args := [d] }
  | _ => none }
def FnOffsetsOfEndWrongFalsely : Prop := fnOffsetsOfEndRow.holds Try.pinned (OpenSpec.ofChange fnOffsetsOfEndWrong)

/-- 'laws.FnOffsetsOfFull': WHATEVER THE INPUT: true; the input reads as it did. -/
def fnOffsetsOfFullSpec : ChangeSpec := { name := "fnOffsetsOfFull", fn := fun _ => fun
  | [d] => { results := [.lit (.bool true)], args := [d] }
  | _ => none }
def fnOffsetsOfFullRow : OpenClaim := { program := "ytlimhpfckedmpaa", sum := "4ab9f74379caf8432418757cc08b44ff05ad9338b833fb32ac7ab71b9acf229e", func := "loop.example/flexlayout/laws.FnOffsetsOfFull", spec := "fnOffsetsOfFull", unfollowed := true, recurses := true, apart := false }
def FnOffsetsOfFullSaid : Prop := fnOffsetsOfFullRow.holds Try.pinned (OpenSpec.ofChange fnOffsetsOfFullSpec)

/-- ITS FALSE NEIGHBOUR: 'it returns false'. Refute it at one input. -/
def fnOffsetsOfFullWrong : ChangeSpec := { name := "fnOffsetsOfFull", fn := fun _ => fun
  | [d] => { results := [.lit (.bool false)], args := [d] }
  | _ => none }
def FnOffsetsOfFullWrongFalsely : Prop := fnOffsetsOfFullRow.holds Try.pinned (OpenSpec.ofChange fnOffsetsOfFullWrong)

/-- 'laws.FnFlexSizesMore': WHATEVER THE INPUT: true; the input reads as it did. -/
def fnFlexSizesMoreSpec : ChangeSpec := { name := "fnFlexSizesMore", fn := fun _ => fun
  | [d] => { results := [.lit (.bool true)], args := [d] }
  | _ => none }
def fnFlexSizesMoreRow : OpenClaim := { program := "ytlimhpfckedmpaa", sum := "4ab9f74379caf8432418757cc08b44ff05ad9338b833fb32ac7ab71b9acf229e", func := "loop.example/flexlayout/laws.FnFlexSizesMore", spec := "fnFlexSizesMore", unfollowed := true, recurses := true, apart := false }
def FnFlexSizesMoreSaid : Prop := fnFlexSizesMoreRow.holds Try.pinned (OpenSpec.ofChange fnFlexSizesMoreSpec)

/-- ITS FALSE NEIGHBOUR: 'it returns false'. Refute it at one input. -/
def fnFlexSizesMoreWrong : ChangeSpec := { name := "fnFlexSizesMore", fn := fun _ => fun
  | [d] => { results := [.lit (.bool false)], args := [d] }
  | _ => none }
def FnFlexSizesMoreWrongFalsely : Prop := fnFlexSizesMoreRow.holds Try.pinned (OpenSpec.ofChange fnFlexSizesMoreWrong)

/-- 'laws.FnFlexSizesOne': WHATEVER THE INPUT: true; the input reads as it did. -/
def fnFlexSizesOneSpec : ChangeSpec := { name := "fnFlexSizesOne", fn := fun _ => fun
  | [d] => { results := [.lit (.bool true)], args := [d] }
  | _ => none }
def fnFlexSizesOneRow : OpenClaim := { program := "ytlimhpfckedmpaa", sum := "4ab9f74379caf8432418757cc08b44ff05ad9338b833fb32ac7ab71b9acf229e", func := "loop.example/flexlayout/laws.FnFlexSizesOne", spec := "fnFlexSizesOne", unfollowed := true, recurses := true, apart := false }
def FnFlexSizesOneSaid : Prop := fnFlexSizesOneRow.holds Try.pinned (OpenSpec.ofChange fnFlexSizesOneSpec)

/-- ITS FALSE NEIGHBOUR: 'it returns false'. Refute it at one input. -/
def fnFlexSizesOneWrong : ChangeSpec := { name := "fnFlexSizesOne", fn := fun _ => fun
  | [d] => { results := [.lit (.bool false)], args := [d] }
  | _ => none }
def FnFlexSizesOneWrongFalsely : Prop := fnFlexSizesOneRow.holds Try.pinned (OpenSpec.ofChange fnFlexSizesOneWrong)

/-- 'laws.FnFlexSizesStiff': WHATEVER THE INPUT: true; the input reads as it did. -/
def fnFlexSizesStiffSpec : ChangeSpec := { name := "fnFlexSizesStiff", fn := fun _ => fun
  | [d] => { results := [.lit (.bool true)], args := [d] }
  | _ => none }
def fnFlexSizesStiffRow : OpenClaim := { program := "ytlimhpfckedmpaa", sum := "4ab9f74379caf8432418757cc08b44ff05ad9338b833fb32ac7ab71b9acf229e", func := "loop.example/flexlayout/laws.FnFlexSizesStiff", spec := "fnFlexSizesStiff", unfollowed := true, recurses := true, apart := false }
def FnFlexSizesStiffSaid : Prop := fnFlexSizesStiffRow.holds Try.pinned (OpenSpec.ofChange fnFlexSizesStiffSpec)

/-- ITS FALSE NEIGHBOUR: 'it returns false'. Refute it at one input. -/
def fnFlexSizesStiffWrong : ChangeSpec := { name := "fnFlexSizesStiff", fn := fun _ => fun
  | [d] => { results := [.lit (.bool false)], args := [d] }
  | _ => none }
def FnFlexSizesStiffWrongFalsely : Prop := fnFlexSizesStiffRow.holds Try.pinned (OpenSpec.ofChange fnFlexSizesStiffWrong)

/- THE SECOND FORM. 'bulk': how many values and letters a reading holds, each counted each time it is reached (what is shared counts as often as it is met; a slice's spare places count too). A statement '..UptoSaid' is the law's where the arguments, and the package variables that the reading takes, are together of bulk at most 1048576: NARROWER than '..Said'. Prove '..Said' where nothing that the law and all that it calls make is longer than what came in: it says more and counts as full. Else prove '..UptoSaid'. A law counts once. -/
mutual
def uptoBulk {H : Type} : DataW H → Nat
  | .lit (.string bytes) => bytes.length + 1
  | .lit _ => 1
  | .nil => 1
  | .ptr d => uptoBulk d + 1
  | .slice elems spare => uptoBulkAll elems + uptoBulkAll spare + 1
  | .agg parts => uptoBulkAll parts + 1
  | .iface _ d => uptoBulk d + 1
  | .map entries => uptoBulkEntries entries + 1
  | .held _ => 1
def uptoBulkAll {H : Type} : List (DataW H) → Nat
  | [] => 0
  | d :: r => uptoBulk d + uptoBulkAll r
def uptoBulkEntries {H : Type} : List (Lit × DataW H) → Nat
  | [] => 0
  | x :: r => uptoBulkEntry x + uptoBulkEntries r
def uptoBulkEntry {H : Type} : Lit × DataW H → Nat
  | (.string bytes, d) => bytes.length + uptoBulk d + 1
  | (_, d) => uptoBulk d + 1
 end
def uptoSmall : (H : Type) → List (DataW H) → Bool := fun _ ds => decide (uptoBulkAll ds ≤ 1048576)
def OpenSpec.upto (s : _root_.Go.ChangeSpec) : _root_.Go.OpenSpec := { _root_.Go.OpenSpec.ofChange s with cond := some uptoSmall }

/-- 'laws.FnMeetRects', WHERE WHAT IT READS IS OF BULK AT MOST 1048576: true; the input reads as it did. -/
def fnMeetRectsUptoRow : OpenClaim := { program := "ytlimhpfckedmpaa", sum := "4ab9f74379caf8432418757cc08b44ff05ad9338b833fb32ac7ab71b9acf229e", func := "loop.example/flexlayout/laws.FnMeetRects", spec := "fnMeetRects", apart := false, narrowed := true }
def FnMeetRectsUptoSaid : Prop := fnMeetRectsUptoRow.holds Try.pinned (OpenSpec.upto fnMeetRectsSpec)

/-- 'laws.FnHullOf', WHERE WHAT IT READS IS OF BULK AT MOST 1048576: true; the input reads as it did. -/
def fnHullOfUptoRow : OpenClaim := { program := "ytlimhpfckedmpaa", sum := "4ab9f74379caf8432418757cc08b44ff05ad9338b833fb32ac7ab71b9acf229e", func := "loop.example/flexlayout/laws.FnHullOf", spec := "fnHullOf", apart := false, narrowed := true }
def FnHullOfUptoSaid : Prop := fnHullOfUptoRow.holds Try.pinned (OpenSpec.upto fnHullOfSpec)

/-- 'laws.FnFlexSizes', WHERE WHAT IT READS IS OF BULK AT MOST 1048576: true; the input reads as it did. -/
def fnFlexSizesUptoRow : OpenClaim := { program := "ytlimhpfckedmpaa", sum := "4ab9f74379caf8432418757cc08b44ff05ad9338b833fb32ac7ab71b9acf229e", func := "loop.example/flexlayout/laws.FnFlexSizes", spec := "fnFlexSizes", unfollowed := true, recurses := true, apart := false, narrowed := true }
def FnFlexSizesUptoSaid : Prop := fnFlexSizesUptoRow.holds Try.pinned (OpenSpec.upto fnFlexSizesSpec)

/-- 'laws.FnFlexSizesFill', WHERE WHAT IT READS IS OF BULK AT MOST 1048576: true; the input reads as it did. -/
def fnFlexSizesFillUptoRow : OpenClaim := { program := "ytlimhpfckedmpaa", sum := "4ab9f74379caf8432418757cc08b44ff05ad9338b833fb32ac7ab71b9acf229e", func := "loop.example/flexlayout/laws.FnFlexSizesFill", spec := "fnFlexSizesFill", unfollowed := true, recurses := true, apart := false, narrowed := true }
def FnFlexSizesFillUptoSaid : Prop := fnFlexSizesFillUptoRow.holds Try.pinned (OpenSpec.upto fnFlexSizesFillSpec)

/-- 'laws.FnFlexSizesBase', WHERE WHAT IT READS IS OF BULK AT MOST 1048576: true; the input reads as it did. -/
def fnFlexSizesBaseUptoRow : OpenClaim := { program := "ytlimhpfckedmpaa", sum := "4ab9f74379caf8432418757cc08b44ff05ad9338b833fb32ac7ab71b9acf229e", func := "loop.example/flexlayout/laws.FnFlexSizesBase", spec := "fnFlexSizesBase", unfollowed := true, recurses := true, apart := false, narrowed := true }
def FnFlexSizesBaseUptoSaid : Prop := fnFlexSizesBaseUptoRow.holds Try.pinned (OpenSpec.upto fnFlexSizesBaseSpec)

/-- 'laws.FnLeftOver', WHERE WHAT IT READS IS OF BULK AT MOST 1048576: true; the input reads as it did. -/
def fnLeftOverUptoRow : OpenClaim := { program := "ytlimhpfckedmpaa", sum := "4ab9f74379caf8432418757cc08b44ff05ad9338b833fb32ac7ab71b9acf229e", func := "loop.example/flexlayout/laws.FnLeftOver", spec := "fnLeftOver", unfollowed := true, recurses := true, apart := false, narrowed := true }
def FnLeftOverUptoSaid : Prop := fnLeftOverUptoRow.holds Try.pinned (OpenSpec.upto fnLeftOverSpec)

/-- 'laws.FnLeftOverGrow', WHERE WHAT IT READS IS OF BULK AT MOST 1048576: true; the input reads as it did. -/
def fnLeftOverGrowUptoRow : OpenClaim := { program := "ytlimhpfckedmpaa", sum := "4ab9f74379caf8432418757cc08b44ff05ad9338b833fb32ac7ab71b9acf229e", func := "loop.example/flexlayout/laws.FnLeftOverGrow", spec := "fnLeftOverGrow", unfollowed := true, recurses := true, apart := false, narrowed := true }
def FnLeftOverGrowUptoSaid : Prop := fnLeftOverGrowUptoRow.holds Try.pinned (OpenSpec.upto fnLeftOverGrowSpec)

/-- 'laws.FnOffsetsOfEnd', WHERE WHAT IT READS IS OF BULK AT MOST 1048576: true; the input reads as it did. -/
def fnOffsetsOfEndUptoRow : OpenClaim := { program := "ytlimhpfckedmpaa", sum := "4ab9f74379caf8432418757cc08b44ff05ad9338b833fb32ac7ab71b9acf229e", func := "loop.example/flexlayout/laws.FnOffsetsOfEnd", spec := "fnOffsetsOfEnd", unfollowed := true, recurses := true, apart := false, narrowed := true }
def FnOffsetsOfEndUptoSaid : Prop := fnOffsetsOfEndUptoRow.holds Try.pinned (OpenSpec.upto fnOffsetsOfEndSpec)

/-- 'laws.FnOffsetsOfFull', WHERE WHAT IT READS IS OF BULK AT MOST 1048576: true; the input reads as it did. -/
def fnOffsetsOfFullUptoRow : OpenClaim := { program := "ytlimhpfckedmpaa", sum := "4ab9f74379caf8432418757cc08b44ff05ad9338b833fb32ac7ab71b9acf229e", func := "loop.example/flexlayout/laws.FnOffsetsOfFull", spec := "fnOffsetsOfFull", unfollowed := true, recurses := true, apart := false, narrowed := true }
def FnOffsetsOfFullUptoSaid : Prop := fnOffsetsOfFullUptoRow.holds Try.pinned (OpenSpec.upto fnOffsetsOfFullSpec)

/-- 'laws.FnFlexSizesMore', WHERE WHAT IT READS IS OF BULK AT MOST 1048576: true; the input reads as it did. -/
def fnFlexSizesMoreUptoRow : OpenClaim := { program := "ytlimhpfckedmpaa", sum := "4ab9f74379caf8432418757cc08b44ff05ad9338b833fb32ac7ab71b9acf229e", func := "loop.example/flexlayout/laws.FnFlexSizesMore", spec := "fnFlexSizesMore", unfollowed := true, recurses := true, apart := false, narrowed := true }
def FnFlexSizesMoreUptoSaid : Prop := fnFlexSizesMoreUptoRow.holds Try.pinned (OpenSpec.upto fnFlexSizesMoreSpec)

/-- 'laws.FnFlexSizesOne', WHERE WHAT IT READS IS OF BULK AT MOST 1048576: true; the input reads as it did. -/
def fnFlexSizesOneUptoRow : OpenClaim := { program := "ytlimhpfckedmpaa", sum := "4ab9f74379caf8432418757cc08b44ff05ad9338b833fb32ac7ab71b9acf229e", func := "loop.example/flexlayout/laws.FnFlexSizesOne", spec := "fnFlexSizesOne", unfollowed := true, recurses := true, apart := false, narrowed := true }
def FnFlexSizesOneUptoSaid : Prop := fnFlexSizesOneUptoRow.holds Try.pinned (OpenSpec.upto fnFlexSizesOneSpec)

/-- 'laws.FnFlexSizesStiff', WHERE WHAT IT READS IS OF BULK AT MOST 1048576: true; the input reads as it did. -/
def fnFlexSizesStiffUptoRow : OpenClaim := { program := "ytlimhpfckedmpaa", sum := "4ab9f74379caf8432418757cc08b44ff05ad9338b833fb32ac7ab71b9acf229e", func := "loop.example/flexlayout/laws.FnFlexSizesStiff", spec := "fnFlexSizesStiff", unfollowed := true, recurses := true, apart := false, narrowed := true }
def FnFlexSizesStiffUptoSaid : Prop := fnFlexSizesStiffUptoRow.holds Try.pinned (OpenSpec.upto fnFlexSizesStiffSpec)

end Rows
end Go.Proofs.Ytlimhpfckedmpaa
