/-
  No cell of these rows narrows 'for every input' (looked for: loops, veiled, ifaces, maps, wideKeys, modest, calm, conditions, laid).
  DERIVED. THE GIVEN ROWS OF THIS SEAT. 5 by the template 'for every input the law returns true; each argument reads behind the call as it read before'; 0 by the template 'total and deterministic' (their statements: YtnipnemhbelcaaaTotals.lean).
  GIVEN WITH THE SEED: the statements are not yours to turn. If you find one false, say at which input.
  Laid BY PROGRAM, IN A SANDBOX (cutbox-rows.mjs): the forced cells as the released guide's own fill.sh prints them over the translation 1fa7283b054d1bd9… (all of the seat's roots in one cut). By AI agents, Wed Nov 11 2026. No macro, syntax, notation, axiom, sorry.
-/
import Derived.Test.YtnipnemhbelcaaaChecked
import GoSem.Claim
import GoSem.ClaimJoined
import GoSem.ClaimMapViews
import Derived.JoinedTies
import Derived.KernelRfl
namespace Go.Proofs.Ytnipnemhbelcaaa
/- THE CELL 'sum', in the pinned program and in every row, IS THE sha256 OF THE DUMP (.gsa) THAT YtnipnemhbelcaaaProg.lean LOADS. Nothing in Lean hashes anything: it is a label: what it is worth is what the hold of that sum in a sandbox is worth. -/
noncomputable def Try.pinned : Pinned := { name := "ytnipnemhbelcaaa", sum := "1fa7283b054d1bd9f52fdd584c6cf61e6ee104fa1a923201a916abcfcbecd172", checked := Try.checked }
namespace Rows
def none {H : Type} : Left H := { results := [], args := [] }

/-- 'laws.FnMeetRects': WHATEVER THE INPUT: true; the input reads as it did. -/
def fnMeetRectsSpec : ChangeSpec := { name := "fnMeetRects", fn := fun _ => fun
  | [d] => { results := [.lit (.bool true)], args := [d] }
  | _ => none }
def fnMeetRectsRow : OpenClaim := { program := "ytnipnemhbelcaaa", sum := "1fa7283b054d1bd9f52fdd584c6cf61e6ee104fa1a923201a916abcfcbecd172", func := "loop.example/flexlayout/laws.FnMeetRects", spec := "fnMeetRects", apart := false }
def FnMeetRectsSaid : Prop := fnMeetRectsRow.holds Try.pinned (OpenSpec.ofChange fnMeetRectsSpec)

/-- ITS FALSE NEIGHBOUR: 'it returns false'. Refute it at one input. -/
def fnMeetRectsWrong : ChangeSpec := { name := "fnMeetRects", fn := fun _ => fun
  | [d] => { results := [.lit (.bool false)], args := [d] }
  | _ => none }
def FnMeetRectsWrongFalsely : Prop := fnMeetRectsRow.holds Try.pinned (OpenSpec.ofChange fnMeetRectsWrong)

/-- 'laws.FnHullOf': WHATEVER THE INPUT: true; the input reads as it did. -/
def fnHullOfSpec : ChangeSpec := { name := "fnHullOf", fn := fun _ => fun
  | [d] => { results := [.lit (.bool true)], args := [d] }
  | _ => none }
def fnHullOfRow : OpenClaim := { program := "ytnipnemhbelcaaa", sum := "1fa7283b054d1bd9f52fdd584c6cf61e6ee104fa1a923201a916abcfcbecd172", func := "loop.example/flexlayout/laws.FnHullOf", spec := "fnHullOf", apart := false }
def FnHullOfSaid : Prop := fnHullOfRow.holds Try.pinned (OpenSpec.ofChange fnHullOfSpec)

/-- ITS FALSE NEIGHBOUR: 'it returns false'. Refute it at one input. -/
def fnHullOfWrong : ChangeSpec := { name := "fnHullOf", fn := fun _ => fun
  | [d] => { results := [.lit (.bool false)], args := [d] }
  | _ => none }
def FnHullOfWrongFalsely : Prop := fnHullOfRow.holds Try.pinned (OpenSpec.ofChange fnHullOfWrong)

/-- 'laws.FnFlexSizesOne': WHATEVER THE INPUT: true; the input reads as it did. -/
def fnFlexSizesOneSpec : ChangeSpec := { name := "fnFlexSizesOne", fn := fun _ => fun
  | [d] => { results := [.lit (.bool true)], args := [d] }
  | _ => none }
def fnFlexSizesOneRow : OpenClaim := { program := "ytnipnemhbelcaaa", sum := "1fa7283b054d1bd9f52fdd584c6cf61e6ee104fa1a923201a916abcfcbecd172", func := "loop.example/flexlayout/laws.FnFlexSizesOne", spec := "fnFlexSizesOne", unfollowed := true, recurses := true, apart := false }
def FnFlexSizesOneSaid : Prop := fnFlexSizesOneRow.holds Try.pinned (OpenSpec.ofChange fnFlexSizesOneSpec)

/-- ITS FALSE NEIGHBOUR: 'it returns false'. Refute it at one input. -/
def fnFlexSizesOneWrong : ChangeSpec := { name := "fnFlexSizesOne", fn := fun _ => fun
  | [d] => { results := [.lit (.bool false)], args := [d] }
  | _ => none }
def FnFlexSizesOneWrongFalsely : Prop := fnFlexSizesOneRow.holds Try.pinned (OpenSpec.ofChange fnFlexSizesOneWrong)

/-- 'laws.FnAutoPlaces': WHATEVER THE INPUT: true; the input reads as it did. -/
def fnAutoPlacesSpec : ChangeSpec := { name := "fnAutoPlaces", fn := fun _ => fun
  | [d] => { results := [.lit (.bool true)], args := [d] }
  | _ => none }
def fnAutoPlacesRow : OpenClaim := { program := "ytnipnemhbelcaaa", sum := "1fa7283b054d1bd9f52fdd584c6cf61e6ee104fa1a923201a916abcfcbecd172", func := "loop.example/flexlayout/laws.FnAutoPlaces", spec := "fnAutoPlaces", apart := false }
def FnAutoPlacesSaid : Prop := fnAutoPlacesRow.holds Try.pinned (OpenSpec.ofChange fnAutoPlacesSpec)

/-- ITS FALSE NEIGHBOUR: 'it returns false'. Refute it at one input. -/
def fnAutoPlacesWrong : ChangeSpec := { name := "fnAutoPlaces", fn := fun _ => fun
  | [d] => { results := [.lit (.bool false)], args := [d] }
  | _ => none }
def FnAutoPlacesWrongFalsely : Prop := fnAutoPlacesRow.holds Try.pinned (OpenSpec.ofChange fnAutoPlacesWrong)

/-- 'laws.FnAutoPlacesPrefix': WHATEVER THE INPUT: true; the input reads as it did. -/
def fnAutoPlacesPrefixSpec : ChangeSpec := { name := "fnAutoPlacesPrefix", fn := fun _ => fun
  | [d] => { results := [.lit (.bool true)], args := [d] }
  | _ => none }
def fnAutoPlacesPrefixRow : OpenClaim := { program := "ytnipnemhbelcaaa", sum := "1fa7283b054d1bd9f52fdd584c6cf61e6ee104fa1a923201a916abcfcbecd172", func := "loop.example/flexlayout/laws.FnAutoPlacesPrefix", spec := "fnAutoPlacesPrefix", apart := false }
def FnAutoPlacesPrefixSaid : Prop := fnAutoPlacesPrefixRow.holds Try.pinned (OpenSpec.ofChange fnAutoPlacesPrefixSpec)

/-- ITS FALSE NEIGHBOUR: 'it returns false'. Refute it at one input. -/
def fnAutoPlacesPrefixWrong : ChangeSpec := { name := "fnAutoPlacesPrefix", fn := fun _ => fun
  | [d] => { results := [.lit (.bool false)], args := [d] }
  | _ => none }
def FnAutoPlacesPrefixWrongFalsely : Prop := fnAutoPlacesPrefixRow.holds Try.pinned (OpenSpec.ofChange fnAutoPlacesPrefixWrong)

/- THE SECOND FORM. 'bulk': how many values and letters a reading holds, each counted each time it is reached (what is shared counts as often as it is met; a slice's spare places count too). A statement '..UptoSaid' is the law's where the arguments, and the package variables that the reading takes, are together of bulk at most 1048576: NARROWER than '..Said'. Prove '..Said' where nothing that the law and all that it calls make is longer than what came in: it says more and counts as full. Else prove '..UptoSaid'. A law counts once. -/
mutual
def uptoBulk {H : Type} : DataW H → Nat
  | .lit (.string bytes) => bytes.length + 1
  | .lit _ => 1
  | .nil => 1
  | .ptr d => uptoBulk d + 1
  | .slice elems spare => uptoBulkAll elems + uptoBulkAll spare + 1
  | .agg parts => uptoBulkAll parts + 1
  | .iface _ d => uptoBulk d + 1
  | .map entries => uptoBulkEntries entries + 1
  | .held _ => 1
def uptoBulkAll {H : Type} : List (DataW H) → Nat
  | [] => 0
  | d :: r => uptoBulk d + uptoBulkAll r
def uptoBulkEntries {H : Type} : List (Lit × DataW H) → Nat
  | [] => 0
  | x :: r => uptoBulkEntry x + uptoBulkEntries r
def uptoBulkEntry {H : Type} : Lit × DataW H → Nat
  | (.string bytes, d) => bytes.length + uptoBulk d + 1
  | (_, d) => uptoBulk d + 1
 end
def uptoSmall : (H : Type) → List (DataW H) → Bool := fun _ ds => decide (uptoBulkAll ds ≤ 1048576)
def OpenSpec.upto (s : _root_.Go.ChangeSpec) : _root_.Go.OpenSpec := { _root_.Go.OpenSpec.ofChange s with cond := some uptoSmall }

/-- 'laws.FnMeetRects', WHERE WHAT IT READS IS OF BULK AT MOST 1048576: true; the input reads as it did. -/
def fnMeetRectsUptoRow : OpenClaim := { program := "ytnipnemhbelcaaa", sum := "1fa7283b054d1bd9f52fdd584c6cf61e6ee104fa1a923201a916abcfcbecd172", func := "loop.example/flexlayout/laws.FnMeetRects", spec := "fnMeetRects", apart := false, narrowed := true }
def FnMeetRectsUptoSaid : Prop := fnMeetRectsUptoRow.holds Try.pinned (OpenSpec.upto fnMeetRectsSpec)

/-- 'laws.FnHullOf', WHERE WHAT IT READS IS OF BULK AT MOST 1048576: true; the input reads as it did. -/
def fnHullOfUptoRow : OpenClaim := { program := "ytnipnemhbelcaaa", sum := "1fa7283b054d1bd9f52fdd584c6cf61e6ee104fa1a923201a916abcfcbecd172", func := "loop.example/flexlayout/laws.FnHullOf", spec := "fnHullOf", apart := false, narrowed := true }
def FnHullOfUptoSaid : Prop := fnHullOfUptoRow.holds Try.pinned (OpenSpec.upto fnHullOfSpec)

/-- 'laws.FnFlexSizesOne', WHERE WHAT IT READS IS OF BULK AT MOST 1048576: true; the input reads as it did. -/
def fnFlexSizesOneUptoRow : OpenClaim := { program := "ytnipnemhbelcaaa", sum := "1fa7283b054d1bd9f52fdd584c6cf61e6ee104fa1a923201a916abcfcbecd172", func := "loop.example/flexlayout/laws.FnFlexSizesOne", spec := "fnFlexSizesOne", unfollowed := true, recurses := true, apart := false, narrowed := true }
def FnFlexSizesOneUptoSaid : Prop := fnFlexSizesOneUptoRow.holds Try.pinned (OpenSpec.upto fnFlexSizesOneSpec)

/-- 'laws.FnAutoPlaces', WHERE WHAT IT READS IS OF BULK AT MOST 1048576: true; the input reads as it did. -/
def fnAutoPlacesUptoRow : OpenClaim := { program := "ytnipnemhbelcaaa", sum := "1fa7283b054d1bd9f52fdd584c6cf61e6ee104fa1a923201a916abcfcbecd172", func := "loop.example/flexlayout/laws.FnAutoPlaces", spec := "fnAutoPlaces", apart := false, narrowed := true }
def FnAutoPlacesUptoSaid : Prop := fnAutoPlacesUptoRow.holds Try.pinned (OpenSpec.upto fnAutoPlacesSpec)

/-- 'laws.FnAutoPlacesPrefix', WHERE WHAT IT READS IS OF BULK AT MOST 1048576: true; the input reads as it did. -/
def fnAutoPlacesPrefixUptoRow : OpenClaim := { program := "ytnipnemhbelcaaa", sum := "1fa7283b054d1bd9f52fdd584c6cf61e6ee104fa1a923201a916abcfcbecd172", func := "loop.example/flexlayout/laws.FnAutoPlacesPrefix", spec := "fnAutoPlacesPrefix", apart := false, narrowed := true }
def FnAutoPlacesPrefixUptoSaid : Prop := fnAutoPlacesPrefixUptoRow.holds Try.pinned (OpenSpec.upto fnAutoPlacesPrefixSpec)

end Rows
end Go.Proofs.Ytnipnemhbelcaaa
