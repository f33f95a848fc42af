/-
  No cell of these rows narrows 'for every input' (looked for: loops, veiled, ifaces, maps, wideKeys, modest, calm, conditions, laid).
  DERIVED. THE GIVEN ROWS OF THIS SEAT. 12 by the template 'for every input the law returns true; each argument reads behind the call as it read before'; 0 by the template 'total and deterministic' (their statements: YthgddcgkabpkiaaTotals.lean).
  GIVEN WITH THE SEED: the statements are not yours to turn. If you find one false, say at which input.
  Laid BY PROGRAM, IN A SANDBOX (cutbox-rows.mjs): the forced cells as the released guide's own fill.sh prints them over the translation cf85f695f1601a0f… (all of the seat's roots in one cut). By AI agents, Wed Nov 11 2026. No macro, syntax, notation, axiom, sorry.
-/
import Derived.Test.YthgddcgkabpkiaaChecked
import GoSem.Claim
import GoSem.ClaimJoined
import GoSem.ClaimMapViews
import Derived.JoinedTies
import Derived.KernelRfl
namespace Go.Proofs.Ythgddcgkabpkiaa
/- THE CELL 'sum', in the pinned program and in every row, IS THE sha256 OF THE DUMP (.gsa) THAT YthgddcgkabpkiaaProg.lean LOADS. Nothing in Lean hashes anything: it is a label: what it is worth is what the hold of that sum in a sandbox is worth. -/
noncomputable def Try.pinned : Pinned := { name := "ythgddcgkabpkiaa", sum := "cf85f695f1601a0f08739f66dceb9b380b2d393f26beb72e8433cdad79644874", checked := Try.checked }
namespace Rows
def none {H : Type} : Left H := { results := [], args := [] }

/-- 'laws.FnExactValidTree': WHATEVER THE INPUT: true; the input reads as it did. -/
def fnExactValidTreeSpec : ChangeSpec := { name := "fnExactValidTree", fn := fun _ => fun
  | [d] => { results := [.lit (.bool true)], args := [d] }
  | _ => none }
def fnExactValidTreeRow : OpenClaim := { program := "ythgddcgkabpkiaa", sum := "cf85f695f1601a0f08739f66dceb9b380b2d393f26beb72e8433cdad79644874", func := "loop.example/flexlayout/laws.FnExactValidTree", spec := "fnExactValidTree", apart := false }
def FnExactValidTreeSaid : Prop := fnExactValidTreeRow.holds Try.pinned (OpenSpec.ofChange fnExactValidTreeSpec)

/-- ITS FALSE NEIGHBOUR: 'it returns false'. Refute it at one input. -/
def fnExactValidTreeWrong : ChangeSpec := { name := "fnExactValidTree", fn := fun _ => fun
  | [d] => { results := [.lit (.bool false)], args := [d] }
  | _ => none }
def FnExactValidTreeWrongFalsely : Prop := fnExactValidTreeRow.holds Try.pinned (OpenSpec.ofChange fnExactValidTreeWrong)

/-- 'laws.FnExactKidsOf': WHATEVER THE INPUT: true; the input reads as it did. -/
def fnExactKidsOfSpec : ChangeSpec := { name := "fnExactKidsOf", fn := fun _ => fun
  | [d1, d2] => { results := [.lit (.bool true)], args := [d1, d2] }
  | _ => none }
def fnExactKidsOfRow : OpenClaim := { program := "ythgddcgkabpkiaa", sum := "cf85f695f1601a0f08739f66dceb9b380b2d393f26beb72e8433cdad79644874", func := "loop.example/flexlayout/laws.FnExactKidsOf", spec := "fnExactKidsOf", apart := false }
def FnExactKidsOfSaid : Prop := fnExactKidsOfRow.holds Try.pinned (OpenSpec.ofChange fnExactKidsOfSpec)

/-- ITS FALSE NEIGHBOUR: 'it returns false'. Refute it at one input. -/
def fnExactKidsOfWrong : ChangeSpec := { name := "fnExactKidsOf", fn := fun _ => fun
  | [d1, d2] => { results := [.lit (.bool false)], args := [d1, d2] }
  | _ => none }
def FnExactKidsOfWrongFalsely : Prop := fnExactKidsOfRow.holds Try.pinned (OpenSpec.ofChange fnExactKidsOfWrong)

/-- 'laws.FnExactDepthOf': WHATEVER THE INPUT: true; the input reads as it did. -/
def fnExactDepthOfSpec : ChangeSpec := { name := "fnExactDepthOf", fn := fun _ => fun
  | [d1, d2] => { results := [.lit (.bool true)], args := [d1, d2] }
  | _ => none }
def fnExactDepthOfRow : OpenClaim := { program := "ythgddcgkabpkiaa", sum := "cf85f695f1601a0f08739f66dceb9b380b2d393f26beb72e8433cdad79644874", func := "loop.example/flexlayout/laws.FnExactDepthOf", spec := "fnExactDepthOf", apart := false }
def FnExactDepthOfSaid : Prop := fnExactDepthOfRow.holds Try.pinned (OpenSpec.ofChange fnExactDepthOfSpec)

/-- ITS FALSE NEIGHBOUR: 'it returns false'. Refute it at one input. -/
def fnExactDepthOfWrong : ChangeSpec := { name := "fnExactDepthOf", fn := fun _ => fun
  | [d1, d2] => { results := [.lit (.bool false)], args := [d1, d2] }
  | _ => none }
def FnExactDepthOfWrongFalsely : Prop := fnExactDepthOfRow.holds Try.pinned (OpenSpec.ofChange fnExactDepthOfWrong)

/-- 'laws.FnExactIsAround': WHATEVER THE INPUT: true; the input reads as it did. -/
def fnExactIsAroundSpec : ChangeSpec := { name := "fnExactIsAround", fn := fun _ => fun
  | [d1, d2, d3] => { results := [.lit (.bool true)], args := [d1, d2, d3] }
  | _ => none }
def fnExactIsAroundRow : OpenClaim := { program := "ythgddcgkabpkiaa", sum := "cf85f695f1601a0f08739f66dceb9b380b2d393f26beb72e8433cdad79644874", func := "loop.example/flexlayout/laws.FnExactIsAround", spec := "fnExactIsAround", apart := false }
def FnExactIsAroundSaid : Prop := fnExactIsAroundRow.holds Try.pinned (OpenSpec.ofChange fnExactIsAroundSpec)

/-- ITS FALSE NEIGHBOUR: 'it returns false'. Refute it at one input. -/
def fnExactIsAroundWrong : ChangeSpec := { name := "fnExactIsAround", fn := fun _ => fun
  | [d1, d2, d3] => { results := [.lit (.bool false)], args := [d1, d2, d3] }
  | _ => none }
def FnExactIsAroundWrongFalsely : Prop := fnExactIsAroundRow.holds Try.pinned (OpenSpec.ofChange fnExactIsAroundWrong)

/-- 'laws.FnExactCountIn': WHATEVER THE INPUT: true; the input reads as it did. -/
def fnExactCountInSpec : ChangeSpec := { name := "fnExactCountIn", fn := fun _ => fun
  | [d1, d2] => { results := [.lit (.bool true)], args := [d1, d2] }
  | _ => none }
def fnExactCountInRow : OpenClaim := { program := "ythgddcgkabpkiaa", sum := "cf85f695f1601a0f08739f66dceb9b380b2d393f26beb72e8433cdad79644874", func := "loop.example/flexlayout/laws.FnExactCountIn", spec := "fnExactCountIn", recurses := true, apart := false }
def FnExactCountInSaid : Prop := fnExactCountInRow.holds Try.pinned (OpenSpec.ofChange fnExactCountInSpec)

/-- ITS FALSE NEIGHBOUR: 'it returns false'. Refute it at one input. -/
def fnExactCountInWrong : ChangeSpec := { name := "fnExactCountIn", fn := fun _ => fun
  | [d1, d2] => { results := [.lit (.bool false)], args := [d1, d2] }
  | _ => none }
def FnExactCountInWrongFalsely : Prop := fnExactCountInRow.holds Try.pinned (OpenSpec.ofChange fnExactCountInWrong)

/-- 'laws.FnExactPartOf': WHATEVER THE INPUT: true; the input reads as it did. -/
def fnExactPartOfSpec : ChangeSpec := { name := "fnExactPartOf", fn := fun _ => fun
  | [d1, d2] => { results := [.lit (.bool true)], args := [d1, d2] }
  | _ => none }
def fnExactPartOfRow : OpenClaim := { program := "ythgddcgkabpkiaa", sum := "cf85f695f1601a0f08739f66dceb9b380b2d393f26beb72e8433cdad79644874", func := "loop.example/flexlayout/laws.FnExactPartOf", spec := "fnExactPartOf", recurses := true, apart := false }
def FnExactPartOfSaid : Prop := fnExactPartOfRow.holds Try.pinned (OpenSpec.ofChange fnExactPartOfSpec)

/-- ITS FALSE NEIGHBOUR: 'it returns false'. Refute it at one input. -/
def fnExactPartOfWrong : ChangeSpec := { name := "fnExactPartOf", fn := fun _ => fun
  | [d1, d2] => { results := [.lit (.bool false)], args := [d1, d2] }
  | _ => none }
def FnExactPartOfWrongFalsely : Prop := fnExactPartOfRow.holds Try.pinned (OpenSpec.ofChange fnExactPartOfWrong)

/-- 'laws.FnExactStyleBox': WHATEVER THE INPUT: true; the input reads as it did. -/
def fnExactStyleBoxSpec : ChangeSpec := { name := "fnExactStyleBox", fn := fun _ => fun
  | [d1, d2, d3] => { results := [.lit (.bool true)], args := [d1, d2, d3] }
  | _ => none }
def fnExactStyleBoxRow : OpenClaim := { program := "ythgddcgkabpkiaa", sum := "cf85f695f1601a0f08739f66dceb9b380b2d393f26beb72e8433cdad79644874", func := "loop.example/flexlayout/laws.FnExactStyleBox", spec := "fnExactStyleBox", apart := false }
def FnExactStyleBoxSaid : Prop := fnExactStyleBoxRow.holds Try.pinned (OpenSpec.ofChange fnExactStyleBoxSpec)

/-- ITS FALSE NEIGHBOUR: 'it returns false'. Refute it at one input. -/
def fnExactStyleBoxWrong : ChangeSpec := { name := "fnExactStyleBox", fn := fun _ => fun
  | [d1, d2, d3] => { results := [.lit (.bool false)], args := [d1, d2, d3] }
  | _ => none }
def FnExactStyleBoxWrongFalsely : Prop := fnExactStyleBoxRow.holds Try.pinned (OpenSpec.ofChange fnExactStyleBoxWrong)

/-- 'laws.FnExactAddBox': WHATEVER THE INPUT: true; the input reads as it did. -/
def fnExactAddBoxSpec : ChangeSpec := { name := "fnExactAddBox", fn := fun _ => fun
  | [d1, d2, d3] => { results := [.lit (.bool true)], args := [d1, d2, d3] }
  | _ => none }
def fnExactAddBoxRow : OpenClaim := { program := "ythgddcgkabpkiaa", sum := "cf85f695f1601a0f08739f66dceb9b380b2d393f26beb72e8433cdad79644874", func := "loop.example/flexlayout/laws.FnExactAddBox", spec := "fnExactAddBox", inPlace := ["slices.overlaps[loop.example/flexlayout/impl.Box]"], recurses := true, apart := false }
def FnExactAddBoxSaid : Prop := fnExactAddBoxRow.holds Try.pinned (OpenSpec.ofChange fnExactAddBoxSpec)

/-- ITS FALSE NEIGHBOUR: 'it returns false'. Refute it at one input. -/
def fnExactAddBoxWrong : ChangeSpec := { name := "fnExactAddBox", fn := fun _ => fun
  | [d1, d2, d3] => { results := [.lit (.bool false)], args := [d1, d2, d3] }
  | _ => none }
def FnExactAddBoxWrongFalsely : Prop := fnExactAddBoxRow.holds Try.pinned (OpenSpec.ofChange fnExactAddBoxWrong)

/-- 'laws.FnExactRemoveBox': WHATEVER THE INPUT: true; the input reads as it did. -/
def fnExactRemoveBoxSpec : ChangeSpec := { name := "fnExactRemoveBox", fn := fun _ => fun
  | [d1, d2] => { results := [.lit (.bool true)], args := [d1, d2] }
  | _ => none }
def fnExactRemoveBoxRow : OpenClaim := { program := "ythgddcgkabpkiaa", sum := "cf85f695f1601a0f08739f66dceb9b380b2d393f26beb72e8433cdad79644874", func := "loop.example/flexlayout/laws.FnExactRemoveBox", spec := "fnExactRemoveBox", recurses := true, apart := false }
def FnExactRemoveBoxSaid : Prop := fnExactRemoveBoxRow.holds Try.pinned (OpenSpec.ofChange fnExactRemoveBoxSpec)

/-- ITS FALSE NEIGHBOUR: 'it returns false'. Refute it at one input. -/
def fnExactRemoveBoxWrong : ChangeSpec := { name := "fnExactRemoveBox", fn := fun _ => fun
  | [d1, d2] => { results := [.lit (.bool false)], args := [d1, d2] }
  | _ => none }
def FnExactRemoveBoxWrongFalsely : Prop := fnExactRemoveBoxRow.holds Try.pinned (OpenSpec.ofChange fnExactRemoveBoxWrong)

/-- 'laws.FnExactNaturalSize': WHATEVER THE INPUT: true; the input reads as it did. -/
def fnExactNaturalSizeSpec : ChangeSpec := { name := "fnExactNaturalSize", fn := fun _ => fun
  | [d1, d2] => { results := [.lit (.bool true)], args := [d1, d2] }
  | _ => none }
def fnExactNaturalSizeRow : OpenClaim := { program := "ythgddcgkabpkiaa", sum := "cf85f695f1601a0f08739f66dceb9b380b2d393f26beb72e8433cdad79644874", func := "loop.example/flexlayout/laws.FnExactNaturalSize", spec := "fnExactNaturalSize", unfollowed := true, recurses := true, apart := false }
def FnExactNaturalSizeSaid : Prop := fnExactNaturalSizeRow.holds Try.pinned (OpenSpec.ofChange fnExactNaturalSizeSpec)

/-- ITS FALSE NEIGHBOUR: 'it returns false'. Refute it at one input. -/
def fnExactNaturalSizeWrong : ChangeSpec := { name := "fnExactNaturalSize", fn := fun _ => fun
  | [d1, d2] => { results := [.lit (.bool false)], args := [d1, d2] }
  | _ => none }
def FnExactNaturalSizeWrongFalsely : Prop := fnExactNaturalSizeRow.holds Try.pinned (OpenSpec.ofChange fnExactNaturalSizeWrong)

/-- 'laws.FnExactFitsIn': WHATEVER THE INPUT: true; the input reads as it did. -/
def fnExactFitsInSpec : ChangeSpec := { name := "fnExactFitsIn", fn := fun _ => fun
  | [d1, d2, d3] => { results := [.lit (.bool true)], args := [d1, d2, d3] }
  | _ => none }
def fnExactFitsInRow : OpenClaim := { program := "ythgddcgkabpkiaa", sum := "cf85f695f1601a0f08739f66dceb9b380b2d393f26beb72e8433cdad79644874", func := "loop.example/flexlayout/laws.FnExactFitsIn", spec := "fnExactFitsIn", unfollowed := true, recurses := true, apart := false }
def FnExactFitsInSaid : Prop := fnExactFitsInRow.holds Try.pinned (OpenSpec.ofChange fnExactFitsInSpec)

/-- ITS FALSE NEIGHBOUR: 'it returns false'. Refute it at one input. -/
def fnExactFitsInWrong : ChangeSpec := { name := "fnExactFitsIn", fn := fun _ => fun
  | [d1, d2, d3] => { results := [.lit (.bool false)], args := [d1, d2, d3] }
  | _ => none }
def FnExactFitsInWrongFalsely : Prop := fnExactFitsInRow.holds Try.pinned (OpenSpec.ofChange fnExactFitsInWrong)

/-- 'laws.FnExactWidestKid': WHATEVER THE INPUT: true; the input reads as it did. -/
def fnExactWidestKidSpec : ChangeSpec := { name := "fnExactWidestKid", fn := fun _ => fun
  | [d1, d2] => { results := [.lit (.bool true)], args := [d1, d2] }
  | _ => none }
def fnExactWidestKidRow : OpenClaim := { program := "ythgddcgkabpkiaa", sum := "cf85f695f1601a0f08739f66dceb9b380b2d393f26beb72e8433cdad79644874", func := "loop.example/flexlayout/laws.FnExactWidestKid", spec := "fnExactWidestKid", unfollowed := true, recurses := true, apart := false }
def FnExactWidestKidSaid : Prop := fnExactWidestKidRow.holds Try.pinned (OpenSpec.ofChange fnExactWidestKidSpec)

/-- ITS FALSE NEIGHBOUR: 'it returns false'. Refute it at one input. -/
def fnExactWidestKidWrong : ChangeSpec := { name := "fnExactWidestKid", fn := fun _ => fun
  | [d1, d2] => { results := [.lit (.bool false)], args := [d1, d2] }
  | _ => none }
def FnExactWidestKidWrongFalsely : Prop := fnExactWidestKidRow.holds Try.pinned (OpenSpec.ofChange fnExactWidestKidWrong)

/- THE SECOND FORM. 'bulk': how many values and letters a reading holds, each counted each time it is reached (what is shared counts as often as it is met; a slice's spare places count too). A statement '..UptoSaid' is the law's where the arguments, and the package variables that the reading takes, are together of bulk at most 1048576: NARROWER than '..Said'. Prove '..Said' where nothing that the law and all that it calls make is longer than what came in: it says more and counts as full. Else prove '..UptoSaid'. A law counts once. -/
mutual
def uptoBulk {H : Type} : DataW H → Nat
  | .lit (.string bytes) => bytes.length + 1
  | .lit _ => 1
  | .nil => 1
  | .ptr d => uptoBulk d + 1
  | .slice elems spare => uptoBulkAll elems + uptoBulkAll spare + 1
  | .agg parts => uptoBulkAll parts + 1
  | .iface _ d => uptoBulk d + 1
  | .map entries => uptoBulkEntries entries + 1
  | .held _ => 1
def uptoBulkAll {H : Type} : List (DataW H) → Nat
  | [] => 0
  | d :: r => uptoBulk d + uptoBulkAll r
def uptoBulkEntries {H : Type} : List (Lit × DataW H) → Nat
  | [] => 0
  | x :: r => uptoBulkEntry x + uptoBulkEntries r
def uptoBulkEntry {H : Type} : Lit × DataW H → Nat
  | (.string bytes, d) => bytes.length + uptoBulk d + 1
  | (_, d) => uptoBulk d + 1
 end
def uptoSmall : (H : Type) → List (DataW H) → Bool := fun _ ds => decide (uptoBulkAll ds ≤ 1048576)
def OpenSpec.upto (s : _root_.Go.ChangeSpec) : _root_.Go.OpenSpec := { _root_.Go.OpenSpec.ofChange s with cond := some uptoSmall }

/-- 'laws.FnExactValidTree', WHERE WHAT IT READS IS OF BULK AT MOST 1048576: true; the input reads as it did. -/
def fnExactValidTreeUptoRow : OpenClaim := { program := "ythgddcgkabpkiaa", sum := "cf85f695f1601a0f08739f66dceb9b380b2d393f26beb72e8433cdad79644874", func := "loop.example/flexlayout/laws.FnExactValidTree", spec := "fnExactValidTree", apart := false, narrowed := true }
def FnExactValidTreeUptoSaid : Prop := fnExactValidTreeUptoRow.holds Try.pinned (OpenSpec.upto fnExactValidTreeSpec)

/-- 'laws.FnExactKidsOf', WHERE WHAT IT READS IS OF BULK AT MOST 1048576: true; the input reads as it did. -/
def fnExactKidsOfUptoRow : OpenClaim := { program := "ythgddcgkabpkiaa", sum := "cf85f695f1601a0f08739f66dceb9b380b2d393f26beb72e8433cdad79644874", func := "loop.example/flexlayout/laws.FnExactKidsOf", spec := "fnExactKidsOf", apart := false, narrowed := true }
def FnExactKidsOfUptoSaid : Prop := fnExactKidsOfUptoRow.holds Try.pinned (OpenSpec.upto fnExactKidsOfSpec)

/-- 'laws.FnExactDepthOf', WHERE WHAT IT READS IS OF BULK AT MOST 1048576: true; the input reads as it did. -/
def fnExactDepthOfUptoRow : OpenClaim := { program := "ythgddcgkabpkiaa", sum := "cf85f695f1601a0f08739f66dceb9b380b2d393f26beb72e8433cdad79644874", func := "loop.example/flexlayout/laws.FnExactDepthOf", spec := "fnExactDepthOf", apart := false, narrowed := true }
def FnExactDepthOfUptoSaid : Prop := fnExactDepthOfUptoRow.holds Try.pinned (OpenSpec.upto fnExactDepthOfSpec)

/-- 'laws.FnExactIsAround', WHERE WHAT IT READS IS OF BULK AT MOST 1048576: true; the input reads as it did. -/
def fnExactIsAroundUptoRow : OpenClaim := { program := "ythgddcgkabpkiaa", sum := "cf85f695f1601a0f08739f66dceb9b380b2d393f26beb72e8433cdad79644874", func := "loop.example/flexlayout/laws.FnExactIsAround", spec := "fnExactIsAround", apart := false, narrowed := true }
def FnExactIsAroundUptoSaid : Prop := fnExactIsAroundUptoRow.holds Try.pinned (OpenSpec.upto fnExactIsAroundSpec)

/-- 'laws.FnExactCountIn', WHERE WHAT IT READS IS OF BULK AT MOST 1048576: true; the input reads as it did. -/
def fnExactCountInUptoRow : OpenClaim := { program := "ythgddcgkabpkiaa", sum := "cf85f695f1601a0f08739f66dceb9b380b2d393f26beb72e8433cdad79644874", func := "loop.example/flexlayout/laws.FnExactCountIn", spec := "fnExactCountIn", recurses := true, apart := false, narrowed := true }
def FnExactCountInUptoSaid : Prop := fnExactCountInUptoRow.holds Try.pinned (OpenSpec.upto fnExactCountInSpec)

/-- 'laws.FnExactPartOf', WHERE WHAT IT READS IS OF BULK AT MOST 1048576: true; the input reads as it did. -/
def fnExactPartOfUptoRow : OpenClaim := { program := "ythgddcgkabpkiaa", sum := "cf85f695f1601a0f08739f66dceb9b380b2d393f26beb72e8433cdad79644874", func := "loop.example/flexlayout/laws.FnExactPartOf", spec := "fnExactPartOf", recurses := true, apart := false, narrowed := true }
def FnExactPartOfUptoSaid : Prop := fnExactPartOfUptoRow.holds Try.pinned (OpenSpec.upto fnExactPartOfSpec)

/-- 'laws.FnExactStyleBox', WHERE WHAT IT READS IS OF BULK AT MOST 1048576: true; the input reads as it did. -/
def fnExactStyleBoxUptoRow : OpenClaim := { program := "ythgddcgkabpkiaa", sum := "cf85f695f1601a0f08739f66dceb9b380b2d393f26beb72e8433cdad79644874", func := "loop.example/flexlayout/laws.FnExactStyleBox", spec := "fnExactStyleBox", apart := false, narrowed := true }
def FnExactStyleBoxUptoSaid : Prop := fnExactStyleBoxUptoRow.holds Try.pinned (OpenSpec.upto fnExactStyleBoxSpec)

/-- 'laws.FnExactAddBox', WHERE WHAT IT READS IS OF BULK AT MOST 1048576: true; the input reads as it did. -/
def fnExactAddBoxUptoRow : OpenClaim := { program := "ythgddcgkabpkiaa", sum := "cf85f695f1601a0f08739f66dceb9b380b2d393f26beb72e8433cdad79644874", func := "loop.example/flexlayout/laws.FnExactAddBox", spec := "fnExactAddBox", inPlace := ["slices.overlaps[loop.example/flexlayout/impl.Box]"], recurses := true, apart := false, narrowed := true }
def FnExactAddBoxUptoSaid : Prop := fnExactAddBoxUptoRow.holds Try.pinned (OpenSpec.upto fnExactAddBoxSpec)

/-- 'laws.FnExactRemoveBox', WHERE WHAT IT READS IS OF BULK AT MOST 1048576: true; the input reads as it did. -/
def fnExactRemoveBoxUptoRow : OpenClaim := { program := "ythgddcgkabpkiaa", sum := "cf85f695f1601a0f08739f66dceb9b380b2d393f26beb72e8433cdad79644874", func := "loop.example/flexlayout/laws.FnExactRemoveBox", spec := "fnExactRemoveBox", recurses := true, apart := false, narrowed := true }
def FnExactRemoveBoxUptoSaid : Prop := fnExactRemoveBoxUptoRow.holds Try.pinned (OpenSpec.upto fnExactRemoveBoxSpec)

/-- 'laws.FnExactNaturalSize', WHERE WHAT IT READS IS OF BULK AT MOST 1048576: true; the input reads as it did. -/
def fnExactNaturalSizeUptoRow : OpenClaim := { program := "ythgddcgkabpkiaa", sum := "cf85f695f1601a0f08739f66dceb9b380b2d393f26beb72e8433cdad79644874", func := "loop.example/flexlayout/laws.FnExactNaturalSize", spec := "fnExactNaturalSize", unfollowed := true, recurses := true, apart := false, narrowed := true }
def FnExactNaturalSizeUptoSaid : Prop := fnExactNaturalSizeUptoRow.holds Try.pinned (OpenSpec.upto fnExactNaturalSizeSpec)

/-- 'laws.FnExactFitsIn', WHERE WHAT IT READS IS OF BULK AT MOST 1048576: true; the input reads as it did. -/
def fnExactFitsInUptoRow : OpenClaim := { program := "ythgddcgkabpkiaa", sum := "cf85f695f1601a0f08739f66dceb9b380b2d393f26beb72e8433cdad79644874", func := "loop.example/flexlayout/laws.FnExactFitsIn", spec := "fnExactFitsIn", unfollowed := true, recurses := true, apart := false, narrowed := true }
def FnExactFitsInUptoSaid : Prop := fnExactFitsInUptoRow.holds Try.pinned (OpenSpec.upto fnExactFitsInSpec)

/-- 'laws.FnExactWidestKid', WHERE WHAT IT READS IS OF BULK AT MOST 1048576: true; the input reads as it did. -/
def fnExactWidestKidUptoRow : OpenClaim := { program := "ythgddcgkabpkiaa", sum := "cf85f695f1601a0f08739f66dceb9b380b2d393f26beb72e8433cdad79644874", func := "loop.example/flexlayout/laws.FnExactWidestKid", spec := "fnExactWidestKid", unfollowed := true, recurses := true, apart := false, narrowed := true }
def FnExactWidestKidUptoSaid : Prop := fnExactWidestKidUptoRow.holds Try.pinned (OpenSpec.upto fnExactWidestKidSpec)

end Rows
end Go.Proofs.Ythgddcgkabpkiaa
