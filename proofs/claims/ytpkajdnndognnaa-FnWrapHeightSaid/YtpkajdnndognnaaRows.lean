/-
  No cell of these rows narrows 'for every input' (looked for: loops, veiled, ifaces, maps, wideKeys, modest, calm, conditions, laid).
  DERIVED. THE GIVEN ROWS OF THIS SEAT. 9 by the template 'for every input the law returns true; each argument reads behind the call as it read before'; 0 by the template 'total and deterministic' (their statements: YtpkajdnndognnaaTotals.lean).
  GIVEN WITH THE SEED: the statements are not yours to turn. If you find one false, say at which input.
  Laid BY PROGRAM, IN A SANDBOX (cutbox-rows.mjs): the forced cells as the released guide's own fill.sh prints them over the translation f7ba897da41bbc84… (all of the seat's roots in one cut). By AI agents, Wed Nov 11 2026. No macro, syntax, notation, axiom, sorry.
-/
import Derived.Test.YtpkajdnndognnaaChecked
import GoSem.Claim
import GoSem.ClaimJoined
import GoSem.ClaimMapViews
import Derived.JoinedTies
import Derived.KernelRfl
namespace Go.Proofs.Ytpkajdnndognnaa
/- THE CELL 'sum', in the pinned program and in every row, IS THE sha256 OF THE DUMP (.gsa) THAT YtpkajdnndognnaaProg.lean LOADS. Nothing in Lean hashes anything: it is a label: what it is worth is what the hold of that sum in a sandbox is worth. -/
noncomputable def Try.pinned : Pinned := { name := "ytpkajdnndognnaa", sum := "f7ba897da41bbc8471e7c7fe56fa8193c0310dff8c45fb811026a12c6a1cf017", checked := Try.checked }
namespace Rows
def none {H : Type} : Left H := { results := [], args := [] }

/-- 'laws.FnExactWrapParts': WHATEVER THE INPUT: true; the input reads as it did. -/
def fnExactWrapPartsSpec : ChangeSpec := { name := "fnExactWrapParts", fn := fun _ => fun
  | [d1, d2, d3] => { results := [.lit (.bool true)], args := [d1, d2, d3] }
  | _ => none }
def fnExactWrapPartsRow : OpenClaim := { program := "ytpkajdnndognnaa", sum := "f7ba897da41bbc8471e7c7fe56fa8193c0310dff8c45fb811026a12c6a1cf017", func := "loop.example/flexlayout/laws.FnExactWrapParts", spec := "fnExactWrapParts", unfollowed := true, recurses := true, apart := false }
def FnExactWrapPartsSaid : Prop := fnExactWrapPartsRow.holds Try.pinned (OpenSpec.ofChange fnExactWrapPartsSpec)

/-- ITS FALSE NEIGHBOUR: 'it returns false'. Refute it at one input. -/
def fnExactWrapPartsWrong : ChangeSpec := { name := "fnExactWrapParts", fn := fun _ => fun
  | [d1, d2, d3] => { results := [.lit (.bool false)], args := [d1, d2, d3] }
  | _ => none }
def FnExactWrapPartsWrongFalsely : Prop := fnExactWrapPartsRow.holds Try.pinned (OpenSpec.ofChange fnExactWrapPartsWrong)

/-- 'laws.FnLineHeights': WHATEVER THE INPUT: true; the input reads as it did. -/
def fnLineHeightsSpec : ChangeSpec := { name := "fnLineHeights", fn := fun _ => fun
  | [d] => { results := [.lit (.bool true)], args := [d] }
  | _ => none }
def fnLineHeightsRow : OpenClaim := { program := "ytpkajdnndognnaa", sum := "f7ba897da41bbc8471e7c7fe56fa8193c0310dff8c45fb811026a12c6a1cf017", func := "loop.example/flexlayout/laws.FnLineHeights", spec := "fnLineHeights", unfollowed := true, recurses := true, apart := false }
def FnLineHeightsSaid : Prop := fnLineHeightsRow.holds Try.pinned (OpenSpec.ofChange fnLineHeightsSpec)

/-- ITS FALSE NEIGHBOUR: 'it returns false'. Refute it at one input. -/
def fnLineHeightsWrong : ChangeSpec := { name := "fnLineHeights", fn := fun _ => fun
  | [d] => { results := [.lit (.bool false)], args := [d] }
  | _ => none }
def FnLineHeightsWrongFalsely : Prop := fnLineHeightsRow.holds Try.pinned (OpenSpec.ofChange fnLineHeightsWrong)

/-- 'laws.FnWrapParts': WHATEVER THE INPUT: true; the input reads as it did. -/
def fnWrapPartsSpec : ChangeSpec := { name := "fnWrapParts", fn := fun _ => fun
  | [d] => { results := [.lit (.bool true)], args := [d] }
  | _ => none }
def fnWrapPartsRow : OpenClaim := { program := "ytpkajdnndognnaa", sum := "f7ba897da41bbc8471e7c7fe56fa8193c0310dff8c45fb811026a12c6a1cf017", func := "loop.example/flexlayout/laws.FnWrapParts", spec := "fnWrapParts", unfollowed := true, recurses := true, apart := false }
def FnWrapPartsSaid : Prop := fnWrapPartsRow.holds Try.pinned (OpenSpec.ofChange fnWrapPartsSpec)

/-- ITS FALSE NEIGHBOUR: 'it returns false'. Refute it at one input. -/
def fnWrapPartsWrong : ChangeSpec := { name := "fnWrapParts", fn := fun _ => fun
  | [d] => { results := [.lit (.bool false)], args := [d] }
  | _ => none }
def FnWrapPartsWrongFalsely : Prop := fnWrapPartsRow.holds Try.pinned (OpenSpec.ofChange fnWrapPartsWrong)

/-- 'laws.FnWrapPartsWidth': WHATEVER THE INPUT: true; the input reads as it did. -/
def fnWrapPartsWidthSpec : ChangeSpec := { name := "fnWrapPartsWidth", fn := fun _ => fun
  | [d] => { results := [.lit (.bool true)], args := [d] }
  | _ => none }
def fnWrapPartsWidthRow : OpenClaim := { program := "ytpkajdnndognnaa", sum := "f7ba897da41bbc8471e7c7fe56fa8193c0310dff8c45fb811026a12c6a1cf017", func := "loop.example/flexlayout/laws.FnWrapPartsWidth", spec := "fnWrapPartsWidth", unfollowed := true, recurses := true, apart := false }
def FnWrapPartsWidthSaid : Prop := fnWrapPartsWidthRow.holds Try.pinned (OpenSpec.ofChange fnWrapPartsWidthSpec)

/-- ITS FALSE NEIGHBOUR: 'it returns false'. Refute it at one input. -/
def fnWrapPartsWidthWrong : ChangeSpec := { name := "fnWrapPartsWidth", fn := fun _ => fun
  | [d] => { results := [.lit (.bool false)], args := [d] }
  | _ => none }
def FnWrapPartsWidthWrongFalsely : Prop := fnWrapPartsWidthRow.holds Try.pinned (OpenSpec.ofChange fnWrapPartsWidthWrong)

/-- 'laws.FnWrapHeight': WHATEVER THE INPUT: true; the input reads as it did. -/
def fnWrapHeightSpec : ChangeSpec := { name := "fnWrapHeight", fn := fun _ => fun
  | [d] => { results := [.lit (.bool true)], args := [d] }
  | _ => none }
def fnWrapHeightRow : OpenClaim := { program := "ytpkajdnndognnaa", sum := "f7ba897da41bbc8471e7c7fe56fa8193c0310dff8c45fb811026a12c6a1cf017", func := "loop.example/flexlayout/laws.FnWrapHeight", spec := "fnWrapHeight", unfollowed := true, recurses := true, apart := false }
def FnWrapHeightSaid : Prop := fnWrapHeightRow.holds Try.pinned (OpenSpec.ofChange fnWrapHeightSpec)

/-- ITS FALSE NEIGHBOUR: 'it returns false'. Refute it at one input. -/
def fnWrapHeightWrong : ChangeSpec := { name := "fnWrapHeight", fn := fun _ => fun
  | [d] => { results := [.lit (.bool false)], args := [d] }
  | _ => none }
def FnWrapHeightWrongFalsely : Prop := fnWrapHeightRow.holds Try.pinned (OpenSpec.ofChange fnWrapHeightWrong)

/-- 'laws.FnWrapHeightWide': WHATEVER THE INPUT: true; the input reads as it did. -/
def fnWrapHeightWideSpec : ChangeSpec := { name := "fnWrapHeightWide", fn := fun _ => fun
  | [d] => { results := [.lit (.bool true)], args := [d] }
  | _ => none }
def fnWrapHeightWideRow : OpenClaim := { program := "ytpkajdnndognnaa", sum := "f7ba897da41bbc8471e7c7fe56fa8193c0310dff8c45fb811026a12c6a1cf017", func := "loop.example/flexlayout/laws.FnWrapHeightWide", spec := "fnWrapHeightWide", unfollowed := true, recurses := true, apart := false }
def FnWrapHeightWideSaid : Prop := fnWrapHeightWideRow.holds Try.pinned (OpenSpec.ofChange fnWrapHeightWideSpec)

/-- ITS FALSE NEIGHBOUR: 'it returns false'. Refute it at one input. -/
def fnWrapHeightWideWrong : ChangeSpec := { name := "fnWrapHeightWide", fn := fun _ => fun
  | [d] => { results := [.lit (.bool false)], args := [d] }
  | _ => none }
def FnWrapHeightWideWrongFalsely : Prop := fnWrapHeightWideRow.holds Try.pinned (OpenSpec.ofChange fnWrapHeightWideWrong)

/-- 'laws.FnValidParts': WHATEVER THE INPUT: true; the input reads as it did. -/
def fnValidPartsSpec : ChangeSpec := { name := "fnValidParts", fn := fun _ => fun
  | [d] => { results := [.lit (.bool true)], args := [d] }
  | _ => none }
def fnValidPartsRow : OpenClaim := { program := "ytpkajdnndognnaa", sum := "f7ba897da41bbc8471e7c7fe56fa8193c0310dff8c45fb811026a12c6a1cf017", func := "loop.example/flexlayout/laws.FnValidParts", spec := "fnValidParts", apart := false }
def FnValidPartsSaid : Prop := fnValidPartsRow.holds Try.pinned (OpenSpec.ofChange fnValidPartsSpec)

/-- ITS FALSE NEIGHBOUR: 'it returns false'. Refute it at one input. -/
def fnValidPartsWrong : ChangeSpec := { name := "fnValidParts", fn := fun _ => fun
  | [d] => { results := [.lit (.bool false)], args := [d] }
  | _ => none }
def FnValidPartsWrongFalsely : Prop := fnValidPartsRow.holds Try.pinned (OpenSpec.ofChange fnValidPartsWrong)

/-- 'laws.FnAutoPlaces': WHATEVER THE INPUT: true; the input reads as it did. -/
def fnAutoPlacesSpec : ChangeSpec := { name := "fnAutoPlaces", fn := fun _ => fun
  | [d] => { results := [.lit (.bool true)], args := [d] }
  | _ => none }
def fnAutoPlacesRow : OpenClaim := { program := "ytpkajdnndognnaa", sum := "f7ba897da41bbc8471e7c7fe56fa8193c0310dff8c45fb811026a12c6a1cf017", func := "loop.example/flexlayout/laws.FnAutoPlaces", spec := "fnAutoPlaces", apart := false }
def FnAutoPlacesSaid : Prop := fnAutoPlacesRow.holds Try.pinned (OpenSpec.ofChange fnAutoPlacesSpec)

/-- ITS FALSE NEIGHBOUR: 'it returns false'. Refute it at one input. -/
def fnAutoPlacesWrong : ChangeSpec := { name := "fnAutoPlaces", fn := fun _ => fun
  | [d] => { results := [.lit (.bool false)], args := [d] }
  | _ => none }
def FnAutoPlacesWrongFalsely : Prop := fnAutoPlacesRow.holds Try.pinned (OpenSpec.ofChange fnAutoPlacesWrong)

/-- 'laws.FnAutoPlacesPrefix': WHATEVER THE INPUT: true; the input reads as it did. -/
def fnAutoPlacesPrefixSpec : ChangeSpec := { name := "fnAutoPlacesPrefix", fn := fun _ => fun
  | [d] => { results := [.lit (.bool true)], args := [d] }
  | _ => none }
def fnAutoPlacesPrefixRow : OpenClaim := { program := "ytpkajdnndognnaa", sum := "f7ba897da41bbc8471e7c7fe56fa8193c0310dff8c45fb811026a12c6a1cf017", func := "loop.example/flexlayout/laws.FnAutoPlacesPrefix", spec := "fnAutoPlacesPrefix", apart := false }
def FnAutoPlacesPrefixSaid : Prop := fnAutoPlacesPrefixRow.holds Try.pinned (OpenSpec.ofChange fnAutoPlacesPrefixSpec)

/-- ITS FALSE NEIGHBOUR: 'it returns false'. Refute it at one input. -/
def fnAutoPlacesPrefixWrong : ChangeSpec := { name := "fnAutoPlacesPrefix", fn := fun _ => fun
  | [d] => { results := [.lit (.bool false)], args := [d] }
  | _ => none }
def FnAutoPlacesPrefixWrongFalsely : Prop := fnAutoPlacesPrefixRow.holds Try.pinned (OpenSpec.ofChange fnAutoPlacesPrefixWrong)

/- THE SECOND FORM. 'bulk': how many values and letters a reading holds, each counted each time it is reached (what is shared counts as often as it is met; a slice's spare places count too). A statement '..UptoSaid' is the law's where the arguments, and the package variables that the reading takes, are together of bulk at most 1048576: NARROWER than '..Said'. Prove '..Said' where nothing that the law and all that it calls make is longer than what came in: it says more and counts as full. Else prove '..UptoSaid'. A law counts once. -/
mutual
def uptoBulk {H : Type} : DataW H → Nat
  | .lit (.string bytes) => bytes.length + 1
  | .lit _ => 1
  | .nil => 1
  | .ptr d => uptoBulk d + 1
  | .slice elems spare => uptoBulkAll elems + uptoBulkAll spare + 1
  | .agg parts => uptoBulkAll parts + 1
  | .iface _ d => uptoBulk d + 1
  | .map entries => uptoBulkEntries entries + 1
  | .held _ => 1
def uptoBulkAll {H : Type} : List (DataW H) → Nat
  | [] => 0
  | d :: r => uptoBulk d + uptoBulkAll r
def uptoBulkEntries {H : Type} : List (Lit × DataW H) → Nat
  | [] => 0
  | x :: r => uptoBulkEntry x + uptoBulkEntries r
def uptoBulkEntry {H : Type} : Lit × DataW H → Nat
  | (.string bytes, d) => bytes.length + uptoBulk d + 1
  | (_, d) => uptoBulk d + 1
 end
def uptoSmall : (H : Type) → List (DataW H) → Bool := fun _ ds => decide (uptoBulkAll ds ≤ 1048576)
def OpenSpec.upto (s : _root_.Go.ChangeSpec) : _root_.Go.OpenSpec := { _root_.Go.OpenSpec.ofChange s with cond := some uptoSmall }

/-- 'laws.FnExactWrapParts', WHERE WHAT IT READS IS OF BULK AT MOST 1048576: true; the input reads as it did. -/
def fnExactWrapPartsUptoRow : OpenClaim := { program := "ytpkajdnndognnaa", sum := "f7ba897da41bbc8471e7c7fe56fa8193c0310dff8c45fb811026a12c6a1cf017", func := "loop.example/flexlayout/laws.FnExactWrapParts", spec := "fnExactWrapParts", unfollowed := true, recurses := true, apart := false, narrowed := true }
def FnExactWrapPartsUptoSaid : Prop := fnExactWrapPartsUptoRow.holds Try.pinned (OpenSpec.upto fnExactWrapPartsSpec)

/-- 'laws.FnLineHeights', WHERE WHAT IT READS IS OF BULK AT MOST 1048576: true; the input reads as it did. -/
def fnLineHeightsUptoRow : OpenClaim := { program := "ytpkajdnndognnaa", sum := "f7ba897da41bbc8471e7c7fe56fa8193c0310dff8c45fb811026a12c6a1cf017", func := "loop.example/flexlayout/laws.FnLineHeights", spec := "fnLineHeights", unfollowed := true, recurses := true, apart := false, narrowed := true }
def FnLineHeightsUptoSaid : Prop := fnLineHeightsUptoRow.holds Try.pinned (OpenSpec.upto fnLineHeightsSpec)

/-- 'laws.FnWrapParts', WHERE WHAT IT READS IS OF BULK AT MOST 1048576: true; the input reads as it did. -/
def fnWrapPartsUptoRow : OpenClaim := { program := "ytpkajdnndognnaa", sum := "f7ba897da41bbc8471e7c7fe56fa8193c0310dff8c45fb811026a12c6a1cf017", func := "loop.example/flexlayout/laws.FnWrapParts", spec := "fnWrapParts", unfollowed := true, recurses := true, apart := false, narrowed := true }
def FnWrapPartsUptoSaid : Prop := fnWrapPartsUptoRow.holds Try.pinned (OpenSpec.upto fnWrapPartsSpec)

/-- 'laws.FnWrapPartsWidth', WHERE WHAT IT READS IS OF BULK AT MOST 1048576: true; the input reads as it did. -/
def fnWrapPartsWidthUptoRow : OpenClaim := { program := "ytpkajdnndognnaa", sum := "f7ba897da41bbc8471e7c7fe56fa8193c0310dff8c45fb811026a12c6a1cf017", func := "loop.example/flexlayout/laws.FnWrapPartsWidth", spec := "fnWrapPartsWidth", unfollowed := true, recurses := true, apart := false, narrowed := true }
def FnWrapPartsWidthUptoSaid : Prop := fnWrapPartsWidthUptoRow.holds Try.pinned (OpenSpec.upto fnWrapPartsWidthSpec)

/-- 'laws.FnWrapHeight', WHERE WHAT IT READS IS OF BULK AT MOST 1048576: true; the input reads as it did. -/
def fnWrapHeightUptoRow : OpenClaim := { program := "ytpkajdnndognnaa", sum := "f7ba897da41bbc8471e7c7fe56fa8193c0310dff8c45fb811026a12c6a1cf017", func := "loop.example/flexlayout/laws.FnWrapHeight", spec := "fnWrapHeight", unfollowed := true, recurses := true, apart := false, narrowed := true }
def FnWrapHeightUptoSaid : Prop := fnWrapHeightUptoRow.holds Try.pinned (OpenSpec.upto fnWrapHeightSpec)

/-- 'laws.FnWrapHeightWide', WHERE WHAT IT READS IS OF BULK AT MOST 1048576: true; the input reads as it did. -/
def fnWrapHeightWideUptoRow : OpenClaim := { program := "ytpkajdnndognnaa", sum := "f7ba897da41bbc8471e7c7fe56fa8193c0310dff8c45fb811026a12c6a1cf017", func := "loop.example/flexlayout/laws.FnWrapHeightWide", spec := "fnWrapHeightWide", unfollowed := true, recurses := true, apart := false, narrowed := true }
def FnWrapHeightWideUptoSaid : Prop := fnWrapHeightWideUptoRow.holds Try.pinned (OpenSpec.upto fnWrapHeightWideSpec)

/-- 'laws.FnValidParts', WHERE WHAT IT READS IS OF BULK AT MOST 1048576: true; the input reads as it did. -/
def fnValidPartsUptoRow : OpenClaim := { program := "ytpkajdnndognnaa", sum := "f7ba897da41bbc8471e7c7fe56fa8193c0310dff8c45fb811026a12c6a1cf017", func := "loop.example/flexlayout/laws.FnValidParts", spec := "fnValidParts", apart := false, narrowed := true }
def FnValidPartsUptoSaid : Prop := fnValidPartsUptoRow.holds Try.pinned (OpenSpec.upto fnValidPartsSpec)

/-- 'laws.FnAutoPlaces', WHERE WHAT IT READS IS OF BULK AT MOST 1048576: true; the input reads as it did. -/
def fnAutoPlacesUptoRow : OpenClaim := { program := "ytpkajdnndognnaa", sum := "f7ba897da41bbc8471e7c7fe56fa8193c0310dff8c45fb811026a12c6a1cf017", func := "loop.example/flexlayout/laws.FnAutoPlaces", spec := "fnAutoPlaces", apart := false, narrowed := true }
def FnAutoPlacesUptoSaid : Prop := fnAutoPlacesUptoRow.holds Try.pinned (OpenSpec.upto fnAutoPlacesSpec)

/-- 'laws.FnAutoPlacesPrefix', WHERE WHAT IT READS IS OF BULK AT MOST 1048576: true; the input reads as it did. -/
def fnAutoPlacesPrefixUptoRow : OpenClaim := { program := "ytpkajdnndognnaa", sum := "f7ba897da41bbc8471e7c7fe56fa8193c0310dff8c45fb811026a12c6a1cf017", func := "loop.example/flexlayout/laws.FnAutoPlacesPrefix", spec := "fnAutoPlacesPrefix", apart := false, narrowed := true }
def FnAutoPlacesPrefixUptoSaid : Prop := fnAutoPlacesPrefixUptoRow.holds Try.pinned (OpenSpec.upto fnAutoPlacesPrefixSpec)

end Rows
end Go.Proofs.Ytpkajdnndognnaa
