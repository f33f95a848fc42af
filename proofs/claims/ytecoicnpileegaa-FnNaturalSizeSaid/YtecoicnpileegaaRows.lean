/-
  No cell of these rows narrows 'for every input' (looked for: loops, veiled, ifaces, maps, wideKeys, modest, calm, conditions, laid).
  DERIVED. THE GIVEN ROWS OF THIS SEAT. 12 by the template 'for every input the law returns true; each argument reads behind the call as it read before'; 0 by the template 'total and deterministic' (their statements: YtecoicnpileegaaTotals.lean).
  GIVEN WITH THE SEED: the statements are not yours to turn. If you find one false, say at which input.
  Laid BY PROGRAM, IN A SANDBOX (cutbox-rows.mjs): the forced cells as the released guide's own fill.sh prints them over the translation f7e49415525144b4… (all of the seat's roots in one cut). By AI agents, Wed Nov 11 2026. No macro, syntax, notation, axiom, sorry.
-/
import Derived.Test.YtecoicnpileegaaChecked
import GoSem.Claim
import GoSem.ClaimJoined
import GoSem.ClaimMapViews
import Derived.JoinedTies
import Derived.KernelRfl
namespace Go.Proofs.Ytecoicnpileegaa
/- THE CELL 'sum', in the pinned program and in every row, IS THE sha256 OF THE DUMP (.gsa) THAT YtecoicnpileegaaProg.lean LOADS. Nothing in Lean hashes anything: it is a label: what it is worth is what the hold of that sum in a sandbox is worth. -/
noncomputable def Try.pinned : Pinned := { name := "ytecoicnpileegaa", sum := "f7e49415525144b4ef19ca36e914876c10ae39c1dc8d3398a2fafc8fc0ba6224", checked := Try.checked }
namespace Rows
def none {H : Type} : Left H := { results := [], args := [] }

/-- 'laws.FnExactNaturalSize': WHATEVER THE INPUT: true; the input reads as it did. -/
def fnExactNaturalSizeSpec : ChangeSpec := { name := "fnExactNaturalSize", fn := fun _ => fun
  | [d1, d2] => { results := [.lit (.bool true)], args := [d1, d2] }
  | _ => none }
def fnExactNaturalSizeRow : OpenClaim := { program := "ytecoicnpileegaa", sum := "f7e49415525144b4ef19ca36e914876c10ae39c1dc8d3398a2fafc8fc0ba6224", func := "loop.example/flexlayout/laws.FnExactNaturalSize", spec := "fnExactNaturalSize", unfollowed := true, recurses := true, apart := false }
def FnExactNaturalSizeSaid : Prop := fnExactNaturalSizeRow.holds Try.pinned (OpenSpec.ofChange fnExactNaturalSizeSpec)

/-- ITS FALSE NEIGHBOUR: 'it returns false'. Refute it at one input. -/
def fnExactNaturalSizeWrong : ChangeSpec := { name := "fnExactNaturalSize", fn := fun _ => fun
  | [d1, d2] => { results := [.lit (.bool false)], args := [d1, d2] }
  | _ => none }
def FnExactNaturalSizeWrongFalsely : Prop := fnExactNaturalSizeRow.holds Try.pinned (OpenSpec.ofChange fnExactNaturalSizeWrong)

/-- 'laws.FnExactFitsIn': WHATEVER THE INPUT: true; the input reads as it did. -/
def fnExactFitsInSpec : ChangeSpec := { name := "fnExactFitsIn", fn := fun _ => fun
  | [d1, d2, d3] => { results := [.lit (.bool true)], args := [d1, d2, d3] }
  | _ => none }
def fnExactFitsInRow : OpenClaim := { program := "ytecoicnpileegaa", sum := "f7e49415525144b4ef19ca36e914876c10ae39c1dc8d3398a2fafc8fc0ba6224", func := "loop.example/flexlayout/laws.FnExactFitsIn", spec := "fnExactFitsIn", unfollowed := true, recurses := true, apart := false }
def FnExactFitsInSaid : Prop := fnExactFitsInRow.holds Try.pinned (OpenSpec.ofChange fnExactFitsInSpec)

/-- ITS FALSE NEIGHBOUR: 'it returns false'. Refute it at one input. -/
def fnExactFitsInWrong : ChangeSpec := { name := "fnExactFitsIn", fn := fun _ => fun
  | [d1, d2, d3] => { results := [.lit (.bool false)], args := [d1, d2, d3] }
  | _ => none }
def FnExactFitsInWrongFalsely : Prop := fnExactFitsInRow.holds Try.pinned (OpenSpec.ofChange fnExactFitsInWrong)

/-- 'laws.FnExactWidestKid': WHATEVER THE INPUT: true; the input reads as it did. -/
def fnExactWidestKidSpec : ChangeSpec := { name := "fnExactWidestKid", fn := fun _ => fun
  | [d1, d2] => { results := [.lit (.bool true)], args := [d1, d2] }
  | _ => none }
def fnExactWidestKidRow : OpenClaim := { program := "ytecoicnpileegaa", sum := "f7e49415525144b4ef19ca36e914876c10ae39c1dc8d3398a2fafc8fc0ba6224", func := "loop.example/flexlayout/laws.FnExactWidestKid", spec := "fnExactWidestKid", unfollowed := true, recurses := true, apart := false }
def FnExactWidestKidSaid : Prop := fnExactWidestKidRow.holds Try.pinned (OpenSpec.ofChange fnExactWidestKidSpec)

/-- ITS FALSE NEIGHBOUR: 'it returns false'. Refute it at one input. -/
def fnExactWidestKidWrong : ChangeSpec := { name := "fnExactWidestKid", fn := fun _ => fun
  | [d1, d2] => { results := [.lit (.bool false)], args := [d1, d2] }
  | _ => none }
def FnExactWidestKidWrongFalsely : Prop := fnExactWidestKidRow.holds Try.pinned (OpenSpec.ofChange fnExactWidestKidWrong)

/-- 'laws.FnNaturalSize': WHATEVER THE INPUT: true; the input reads as it did. -/
def fnNaturalSizeSpec : ChangeSpec := { name := "fnNaturalSize", fn := fun _ => fun
  | [d] => { results := [.lit (.bool true)], args := [d] }
  | _ => none }
def fnNaturalSizeRow : OpenClaim := { program := "ytecoicnpileegaa", sum := "f7e49415525144b4ef19ca36e914876c10ae39c1dc8d3398a2fafc8fc0ba6224", func := "loop.example/flexlayout/laws.FnNaturalSize", spec := "fnNaturalSize", unfollowed := true, recurses := true, apart := false }
def FnNaturalSizeSaid : Prop := fnNaturalSizeRow.holds Try.pinned (OpenSpec.ofChange fnNaturalSizeSpec)

/-- ITS FALSE NEIGHBOUR: 'it returns false'. Refute it at one input. -/
def fnNaturalSizeWrong : ChangeSpec := { name := "fnNaturalSize", fn := fun _ => fun
  | [d] => { results := [.lit (.bool false)], args := [d] }
  | _ => none }
def FnNaturalSizeWrongFalsely : Prop := fnNaturalSizeRow.holds Try.pinned (OpenSpec.ofChange fnNaturalSizeWrong)

/-- 'laws.FnNaturalSizeKids': WHATEVER THE INPUT: true; the input reads as it did. -/
def fnNaturalSizeKidsSpec : ChangeSpec := { name := "fnNaturalSizeKids", fn := fun _ => fun
  | [d] => { results := [.lit (.bool true)], args := [d] }
  | _ => none }
def fnNaturalSizeKidsRow : OpenClaim := { program := "ytecoicnpileegaa", sum := "f7e49415525144b4ef19ca36e914876c10ae39c1dc8d3398a2fafc8fc0ba6224", func := "loop.example/flexlayout/laws.FnNaturalSizeKids", spec := "fnNaturalSizeKids", unfollowed := true, recurses := true, apart := false }
def FnNaturalSizeKidsSaid : Prop := fnNaturalSizeKidsRow.holds Try.pinned (OpenSpec.ofChange fnNaturalSizeKidsSpec)

/-- ITS FALSE NEIGHBOUR: 'it returns false'. Refute it at one input. -/
def fnNaturalSizeKidsWrong : ChangeSpec := { name := "fnNaturalSizeKids", fn := fun _ => fun
  | [d] => { results := [.lit (.bool false)], args := [d] }
  | _ => none }
def FnNaturalSizeKidsWrongFalsely : Prop := fnNaturalSizeKidsRow.holds Try.pinned (OpenSpec.ofChange fnNaturalSizeKidsWrong)

/-- 'laws.FnNaturalSizeRow': WHATEVER THE INPUT: true; the input reads as it did. -/
def fnNaturalSizeRowSpec : ChangeSpec := { name := "fnNaturalSizeRow", fn := fun _ => fun
  | [d] => { results := [.lit (.bool true)], args := [d] }
  | _ => none }
def fnNaturalSizeRowRow : OpenClaim := { program := "ytecoicnpileegaa", sum := "f7e49415525144b4ef19ca36e914876c10ae39c1dc8d3398a2fafc8fc0ba6224", func := "loop.example/flexlayout/laws.FnNaturalSizeRow", spec := "fnNaturalSizeRow", unfollowed := true, recurses := true, apart := false }
def FnNaturalSizeRowSaid : Prop := fnNaturalSizeRowRow.holds Try.pinned (OpenSpec.ofChange fnNaturalSizeRowSpec)

/-- ITS FALSE NEIGHBOUR: 'it returns false'. Refute it at one input. -/
def fnNaturalSizeRowWrong : ChangeSpec := { name := "fnNaturalSizeRow", fn := fun _ => fun
  | [d] => { results := [.lit (.bool false)], args := [d] }
  | _ => none }
def FnNaturalSizeRowWrongFalsely : Prop := fnNaturalSizeRowRow.holds Try.pinned (OpenSpec.ofChange fnNaturalSizeRowWrong)

/-- 'laws.FnNaturalSizePad': WHATEVER THE INPUT: true; the input reads as it did. -/
def fnNaturalSizePadSpec : ChangeSpec := { name := "fnNaturalSizePad", fn := fun _ => fun
  | [d] => { results := [.lit (.bool true)], args := [d] }
  | _ => none }
def fnNaturalSizePadRow : OpenClaim := { program := "ytecoicnpileegaa", sum := "f7e49415525144b4ef19ca36e914876c10ae39c1dc8d3398a2fafc8fc0ba6224", func := "loop.example/flexlayout/laws.FnNaturalSizePad", spec := "fnNaturalSizePad", unfollowed := true, recurses := true, apart := false }
def FnNaturalSizePadSaid : Prop := fnNaturalSizePadRow.holds Try.pinned (OpenSpec.ofChange fnNaturalSizePadSpec)

/-- ITS FALSE NEIGHBOUR: 'it returns false'. Refute it at one input. -/
def fnNaturalSizePadWrong : ChangeSpec := { name := "fnNaturalSizePad", fn := fun _ => fun
  | [d] => { results := [.lit (.bool false)], args := [d] }
  | _ => none }
def FnNaturalSizePadWrongFalsely : Prop := fnNaturalSizePadRow.holds Try.pinned (OpenSpec.ofChange fnNaturalSizePadWrong)

/-- 'laws.FnFitsIn': WHATEVER THE INPUT: true; the input reads as it did. -/
def fnFitsInSpec : ChangeSpec := { name := "fnFitsIn", fn := fun _ => fun
  | [d] => { results := [.lit (.bool true)], args := [d] }
  | _ => none }
def fnFitsInRow : OpenClaim := { program := "ytecoicnpileegaa", sum := "f7e49415525144b4ef19ca36e914876c10ae39c1dc8d3398a2fafc8fc0ba6224", func := "loop.example/flexlayout/laws.FnFitsIn", spec := "fnFitsIn", unfollowed := true, recurses := true, apart := false }
def FnFitsInSaid : Prop := fnFitsInRow.holds Try.pinned (OpenSpec.ofChange fnFitsInSpec)

/-- ITS FALSE NEIGHBOUR: 'it returns false'. Refute it at one input. -/
def fnFitsInWrong : ChangeSpec := { name := "fnFitsIn", fn := fun _ => fun
  | [d] => { results := [.lit (.bool false)], args := [d] }
  | _ => none }
def FnFitsInWrongFalsely : Prop := fnFitsInRow.holds Try.pinned (OpenSpec.ofChange fnFitsInWrong)

/-- 'laws.FnFitsInMore': WHATEVER THE INPUT: true; the input reads as it did. -/
def fnFitsInMoreSpec : ChangeSpec := { name := "fnFitsInMore", fn := fun _ => fun
  | [d] => { results := [.lit (.bool true)], args := [d] }
  | _ => none }
def fnFitsInMoreRow : OpenClaim := { program := "ytecoicnpileegaa", sum := "f7e49415525144b4ef19ca36e914876c10ae39c1dc8d3398a2fafc8fc0ba6224", func := "loop.example/flexlayout/laws.FnFitsInMore", spec := "fnFitsInMore", unfollowed := true, recurses := true, apart := false }
def FnFitsInMoreSaid : Prop := fnFitsInMoreRow.holds Try.pinned (OpenSpec.ofChange fnFitsInMoreSpec)

/-- ITS FALSE NEIGHBOUR: 'it returns false'. Refute it at one input. -/
def fnFitsInMoreWrong : ChangeSpec := { name := "fnFitsInMore", fn := fun _ => fun
  | [d] => { results := [.lit (.bool false)], args := [d] }
  | _ => none }
def FnFitsInMoreWrongFalsely : Prop := fnFitsInMoreRow.holds Try.pinned (OpenSpec.ofChange fnFitsInMoreWrong)

/-- 'laws.FnWidestKid': WHATEVER THE INPUT: true; the input reads as it did. -/
def fnWidestKidSpec : ChangeSpec := { name := "fnWidestKid", fn := fun _ => fun
  | [d] => { results := [.lit (.bool true)], args := [d] }
  | _ => none }
def fnWidestKidRow : OpenClaim := { program := "ytecoicnpileegaa", sum := "f7e49415525144b4ef19ca36e914876c10ae39c1dc8d3398a2fafc8fc0ba6224", func := "loop.example/flexlayout/laws.FnWidestKid", spec := "fnWidestKid", unfollowed := true, recurses := true, apart := false }
def FnWidestKidSaid : Prop := fnWidestKidRow.holds Try.pinned (OpenSpec.ofChange fnWidestKidSpec)

/-- ITS FALSE NEIGHBOUR: 'it returns false'. Refute it at one input. -/
def fnWidestKidWrong : ChangeSpec := { name := "fnWidestKid", fn := fun _ => fun
  | [d] => { results := [.lit (.bool false)], args := [d] }
  | _ => none }
def FnWidestKidWrongFalsely : Prop := fnWidestKidRow.holds Try.pinned (OpenSpec.ofChange fnWidestKidWrong)

/-- 'laws.FnWidestKidWidth': WHATEVER THE INPUT: true; the input reads as it did. -/
def fnWidestKidWidthSpec : ChangeSpec := { name := "fnWidestKidWidth", fn := fun _ => fun
  | [d] => { results := [.lit (.bool true)], args := [d] }
  | _ => none }
def fnWidestKidWidthRow : OpenClaim := { program := "ytecoicnpileegaa", sum := "f7e49415525144b4ef19ca36e914876c10ae39c1dc8d3398a2fafc8fc0ba6224", func := "loop.example/flexlayout/laws.FnWidestKidWidth", spec := "fnWidestKidWidth", unfollowed := true, recurses := true, apart := false }
def FnWidestKidWidthSaid : Prop := fnWidestKidWidthRow.holds Try.pinned (OpenSpec.ofChange fnWidestKidWidthSpec)

/-- ITS FALSE NEIGHBOUR: 'it returns false'. Refute it at one input. -/
def fnWidestKidWidthWrong : ChangeSpec := { name := "fnWidestKidWidth", fn := fun _ => fun
  | [d] => { results := [.lit (.bool false)], args := [d] }
  | _ => none }
def FnWidestKidWidthWrongFalsely : Prop := fnWidestKidWidthRow.holds Try.pinned (OpenSpec.ofChange fnWidestKidWidthWrong)

/-- 'laws.FnAddBoxSize': WHATEVER THE INPUT: true; the input reads as it did. -/
def fnAddBoxSizeSpec : ChangeSpec := { name := "fnAddBoxSize", fn := fun _ => fun
  | [d] => { results := [.lit (.bool true)], args := [d] }
  | _ => none }
def fnAddBoxSizeRow : OpenClaim := { program := "ytecoicnpileegaa", sum := "f7e49415525144b4ef19ca36e914876c10ae39c1dc8d3398a2fafc8fc0ba6224", func := "loop.example/flexlayout/laws.FnAddBoxSize", spec := "fnAddBoxSize", inPlace := ["slices.overlaps[loop.example/flexlayout/impl.Box]"], unfollowed := true, recurses := true, apart := false }
def FnAddBoxSizeSaid : Prop := fnAddBoxSizeRow.holds Try.pinned (OpenSpec.ofChange fnAddBoxSizeSpec)

/-- ITS FALSE NEIGHBOUR: 'it returns false'. Refute it at one input. -/
def fnAddBoxSizeWrong : ChangeSpec := { name := "fnAddBoxSize", fn := fun _ => fun
  | [d] => { results := [.lit (.bool false)], args := [d] }
  | _ => none }
def FnAddBoxSizeWrongFalsely : Prop := fnAddBoxSizeRow.holds Try.pinned (OpenSpec.ofChange fnAddBoxSizeWrong)

/- THE SECOND FORM. 'bulk': how many values and letters a reading holds, each counted each time it is reached (what is shared counts as often as it is met; a slice's spare places count too). A statement '..UptoSaid' is the law's where the arguments, and the package variables that the reading takes, are together of bulk at most 1048576: NARROWER than '..Said'. Prove '..Said' where nothing that the law and all that it calls make is longer than what came in: it says more and counts as full. Else prove '..UptoSaid'. A law counts once. -/
mutual
def uptoBulk {H : Type} : DataW H → Nat
  | .lit (.string bytes) => bytes.length + 1
  | .lit _ => 1
  | .nil => 1
  | .ptr d => uptoBulk d + 1
  | .slice elems spare => uptoBulkAll elems + uptoBulkAll spare + 1
  | .agg parts => uptoBulkAll parts + 1
  | .iface _ d => uptoBulk d + 1
  | .map entries => uptoBulkEntries entries + 1
  | .held _ => 1
def uptoBulkAll {H : Type} : List (DataW H) → Nat
  | [] => 0
  | d :: r => uptoBulk d + uptoBulkAll r
def uptoBulkEntries {H : Type} : List (Lit × DataW H) → Nat
  | [] => 0
  | x :: r => uptoBulkEntry x + uptoBulkEntries r
def uptoBulkEntry {H : Type} : Lit × DataW H → Nat
  | (.string bytes, d) => bytes.length + uptoBulk d + 1
  | (_, d) => uptoBulk d + 1
 end
def uptoSmall : (H : Type) → List (DataW H) → Bool := fun _ ds => decide (uptoBulkAll ds ≤ 1048576)
def OpenSpec.upto (s : _root_.Go.ChangeSpec) : _root_.Go.OpenSpec := { _root_.Go.OpenSpec.ofChange s with cond := some uptoSmall }

/-- 'laws.FnExactNaturalSize', WHERE WHAT IT READS IS OF BULK AT MOST 1048576: true; the input reads as it did. -/
def fnExactNaturalSizeUptoRow : OpenClaim := { program := "ytecoicnpileegaa", sum := "f7e49415525144b4ef19ca36e914876c10ae39c1dc8d3398a2fafc8fc0ba6224", func := "loop.example/flexlayout/laws.FnExactNaturalSize", spec := "fnExactNaturalSize", unfollowed := true, recurses := true, apart := false, narrowed := true }
def FnExactNaturalSizeUptoSaid : Prop := fnExactNaturalSizeUptoRow.holds Try.pinned (OpenSpec.upto fnExactNaturalSizeSpec)

/-- 'laws.FnExactFitsIn', WHERE WHAT IT READS IS OF BULK AT MOST 1048576: true; the input reads as it did. -/
def fnExactFitsInUptoRow : OpenClaim := { program := "ytecoicnpileegaa", sum := "f7e49415525144b4ef19ca36e914876c10ae39c1dc8d3398a2fafc8fc0ba6224", func := "loop.example/flexlayout/laws.FnExactFitsIn", spec := "fnExactFitsIn", unfollowed := true, recurses := true, apart := false, narrowed := true }
def FnExactFitsInUptoSaid : Prop := fnExactFitsInUptoRow.holds Try.pinned (OpenSpec.upto fnExactFitsInSpec)

/-- 'laws.FnExactWidestKid', WHERE WHAT IT READS IS OF BULK AT MOST 1048576: true; the input reads as it did. -/
def fnExactWidestKidUptoRow : OpenClaim := { program := "ytecoicnpileegaa", sum := "f7e49415525144b4ef19ca36e914876c10ae39c1dc8d3398a2fafc8fc0ba6224", func := "loop.example/flexlayout/laws.FnExactWidestKid", spec := "fnExactWidestKid", unfollowed := true, recurses := true, apart := false, narrowed := true }
def FnExactWidestKidUptoSaid : Prop := fnExactWidestKidUptoRow.holds Try.pinned (OpenSpec.upto fnExactWidestKidSpec)

/-- 'laws.FnNaturalSize', WHERE WHAT IT READS IS OF BULK AT MOST 1048576: true; the input reads as it did. -/
def fnNaturalSizeUptoRow : OpenClaim := { program := "ytecoicnpileegaa", sum := "f7e49415525144b4ef19ca36e914876c10ae39c1dc8d3398a2fafc8fc0ba6224", func := "loop.example/flexlayout/laws.FnNaturalSize", spec := "fnNaturalSize", unfollowed := true, recurses := true, apart := false, narrowed := true }
def FnNaturalSizeUptoSaid : Prop := fnNaturalSizeUptoRow.holds Try.pinned (OpenSpec.upto fnNaturalSizeSpec)

/-- 'laws.FnNaturalSizeKids', WHERE WHAT IT READS IS OF BULK AT MOST 1048576: true; the input reads as it did. -/
def fnNaturalSizeKidsUptoRow : OpenClaim := { program := "ytecoicnpileegaa", sum := "f7e49415525144b4ef19ca36e914876c10ae39c1dc8d3398a2fafc8fc0ba6224", func := "loop.example/flexlayout/laws.FnNaturalSizeKids", spec := "fnNaturalSizeKids", unfollowed := true, recurses := true, apart := false, narrowed := true }
def FnNaturalSizeKidsUptoSaid : Prop := fnNaturalSizeKidsUptoRow.holds Try.pinned (OpenSpec.upto fnNaturalSizeKidsSpec)

/-- 'laws.FnNaturalSizeRow', WHERE WHAT IT READS IS OF BULK AT MOST 1048576: true; the input reads as it did. -/
def fnNaturalSizeRowUptoRow : OpenClaim := { program := "ytecoicnpileegaa", sum := "f7e49415525144b4ef19ca36e914876c10ae39c1dc8d3398a2fafc8fc0ba6224", func := "loop.example/flexlayout/laws.FnNaturalSizeRow", spec := "fnNaturalSizeRow", unfollowed := true, recurses := true, apart := false, narrowed := true }
def FnNaturalSizeRowUptoSaid : Prop := fnNaturalSizeRowUptoRow.holds Try.pinned (OpenSpec.upto fnNaturalSizeRowSpec)

/-- 'laws.FnNaturalSizePad', WHERE WHAT IT READS IS OF BULK AT MOST 1048576: true; the input reads as it did. -/
def fnNaturalSizePadUptoRow : OpenClaim := { program := "ytecoicnpileegaa", sum := "f7e49415525144b4ef19ca36e914876c10ae39c1dc8d3398a2fafc8fc0ba6224", func := "loop.example/flexlayout/laws.FnNaturalSizePad", spec := "fnNaturalSizePad", unfollowed := true, recurses := true, apart := false, narrowed := true }
def FnNaturalSizePadUptoSaid : Prop := fnNaturalSizePadUptoRow.holds Try.pinned (OpenSpec.upto fnNaturalSizePadSpec)

/-- 'laws.FnFitsIn', WHERE WHAT IT READS IS OF BULK AT MOST 1048576: true; the input reads as it did. -/
def fnFitsInUptoRow : OpenClaim := { program := "ytecoicnpileegaa", sum := "f7e49415525144b4ef19ca36e914876c10ae39c1dc8d3398a2fafc8fc0ba6224", func := "loop.example/flexlayout/laws.FnFitsIn", spec := "fnFitsIn", unfollowed := true, recurses := true, apart := false, narrowed := true }
def FnFitsInUptoSaid : Prop := fnFitsInUptoRow.holds Try.pinned (OpenSpec.upto fnFitsInSpec)

/-- 'laws.FnFitsInMore', WHERE WHAT IT READS IS OF BULK AT MOST 1048576: true; the input reads as it did. -/
def fnFitsInMoreUptoRow : OpenClaim := { program := "ytecoicnpileegaa", sum := "f7e49415525144b4ef19ca36e914876c10ae39c1dc8d3398a2fafc8fc0ba6224", func := "loop.example/flexlayout/laws.FnFitsInMore", spec := "fnFitsInMore", unfollowed := true, recurses := true, apart := false, narrowed := true }
def FnFitsInMoreUptoSaid : Prop := fnFitsInMoreUptoRow.holds Try.pinned (OpenSpec.upto fnFitsInMoreSpec)

/-- 'laws.FnWidestKid', WHERE WHAT IT READS IS OF BULK AT MOST 1048576: true; the input reads as it did. -/
def fnWidestKidUptoRow : OpenClaim := { program := "ytecoicnpileegaa", sum := "f7e49415525144b4ef19ca36e914876c10ae39c1dc8d3398a2fafc8fc0ba6224", func := "loop.example/flexlayout/laws.FnWidestKid", spec := "fnWidestKid", unfollowed := true, recurses := true, apart := false, narrowed := true }
def FnWidestKidUptoSaid : Prop := fnWidestKidUptoRow.holds Try.pinned (OpenSpec.upto fnWidestKidSpec)

/-- 'laws.FnWidestKidWidth', WHERE WHAT IT READS IS OF BULK AT MOST 1048576: true; the input reads as it did. -/
def fnWidestKidWidthUptoRow : OpenClaim := { program := "ytecoicnpileegaa", sum := "f7e49415525144b4ef19ca36e914876c10ae39c1dc8d3398a2fafc8fc0ba6224", func := "loop.example/flexlayout/laws.FnWidestKidWidth", spec := "fnWidestKidWidth", unfollowed := true, recurses := true, apart := false, narrowed := true }
def FnWidestKidWidthUptoSaid : Prop := fnWidestKidWidthUptoRow.holds Try.pinned (OpenSpec.upto fnWidestKidWidthSpec)

/-- 'laws.FnAddBoxSize', WHERE WHAT IT READS IS OF BULK AT MOST 1048576: true; the input reads as it did. -/
def fnAddBoxSizeUptoRow : OpenClaim := { program := "ytecoicnpileegaa", sum := "f7e49415525144b4ef19ca36e914876c10ae39c1dc8d3398a2fafc8fc0ba6224", func := "loop.example/flexlayout/laws.FnAddBoxSize", spec := "fnAddBoxSize", inPlace := ["slices.overlaps[loop.example/flexlayout/impl.Box]"], unfollowed := true, recurses := true, apart := false, narrowed := true }
def FnAddBoxSizeUptoSaid : Prop := fnAddBoxSizeUptoRow.holds Try.pinned (OpenSpec.upto fnAddBoxSizeSpec)

end Rows
end Go.Proofs.Ytecoicnpileegaa
