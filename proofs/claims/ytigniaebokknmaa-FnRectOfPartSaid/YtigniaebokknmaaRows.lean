/-
  No cell of these rows narrows 'for every input' (looked for: loops, veiled, ifaces, maps, wideKeys, modest, calm, conditions, laid).
  DERIVED. THE GIVEN ROWS OF THIS SEAT. 5 by the template 'for every input the law returns true; each argument reads behind the call as it read before'; 0 by the template 'total and deterministic' (their statements: YtigniaebokknmaaTotals.lean).
  GIVEN WITH THE SEED: the statements are not yours to turn. If you find one false, say at which input.
  Laid BY PROGRAM, IN A SANDBOX (cutbox-rows.mjs): the forced cells as the released guide's own fill.sh prints them over the translation e6294f8b0d1519c8… (all of the seat's roots in one cut). By AI agents, Wed Nov 11 2026. No macro, syntax, notation, axiom, sorry.
-/
import Derived.Test.YtigniaebokknmaaChecked
import GoSem.Claim
import GoSem.ClaimJoined
import GoSem.ClaimMapViews
import Derived.JoinedTies
import Derived.KernelRfl
namespace Go.Proofs.Ytigniaebokknmaa
/- THE CELL 'sum', in the pinned program and in every row, IS THE sha256 OF THE DUMP (.gsa) THAT YtigniaebokknmaaProg.lean LOADS. Nothing in Lean hashes anything: it is a label: what it is worth is what the hold of that sum in a sandbox is worth. -/
noncomputable def Try.pinned : Pinned := { name := "ytigniaebokknmaa", sum := "e6294f8b0d1519c8c3c8f89acac6f6f0e5a8b575322d06027223338039450cbf", checked := Try.checked }
namespace Rows
def none {H : Type} : Left H := { results := [], args := [] }

/-- 'laws.FnLayoutTreeApart': WHATEVER THE INPUT: true; the input reads as it did. -/
def fnLayoutTreeApartSpec : ChangeSpec := { name := "fnLayoutTreeApart", fn := fun _ => fun
  | [d] => { results := [.lit (.bool true)], args := [d] }
  | _ => none }
def fnLayoutTreeApartRow : OpenClaim := { program := "ytigniaebokknmaa", sum := "e6294f8b0d1519c8c3c8f89acac6f6f0e5a8b575322d06027223338039450cbf", func := "loop.example/flexlayout/laws.FnLayoutTreeApart", spec := "fnLayoutTreeApart", unfollowed := true, recurses := true, apart := false }
def FnLayoutTreeApartSaid : Prop := fnLayoutTreeApartRow.holds Try.pinned (OpenSpec.ofChange fnLayoutTreeApartSpec)

/-- ITS FALSE NEIGHBOUR: 'it returns false'. Refute it at one input. -/
def fnLayoutTreeApartWrong : ChangeSpec := { name := "fnLayoutTreeApart", fn := fun _ => fun
  | [d] => { results := [.lit (.bool false)], args := [d] }
  | _ => none }
def FnLayoutTreeApartWrongFalsely : Prop := fnLayoutTreeApartRow.holds Try.pinned (OpenSpec.ofChange fnLayoutTreeApartWrong)

/-- 'laws.FnLayoutTreeRow': WHATEVER THE INPUT: true; the input reads as it did. -/
def fnLayoutTreeRowSpec : ChangeSpec := { name := "fnLayoutTreeRow", fn := fun _ => fun
  | [d] => { results := [.lit (.bool true)], args := [d] }
  | _ => none }
def fnLayoutTreeRowRow : OpenClaim := { program := "ytigniaebokknmaa", sum := "e6294f8b0d1519c8c3c8f89acac6f6f0e5a8b575322d06027223338039450cbf", func := "loop.example/flexlayout/laws.FnLayoutTreeRow", spec := "fnLayoutTreeRow", unfollowed := true, recurses := true, apart := false }
def FnLayoutTreeRowSaid : Prop := fnLayoutTreeRowRow.holds Try.pinned (OpenSpec.ofChange fnLayoutTreeRowSpec)

/-- ITS FALSE NEIGHBOUR: 'it returns false'. Refute it at one input. -/
def fnLayoutTreeRowWrong : ChangeSpec := { name := "fnLayoutTreeRow", fn := fun _ => fun
  | [d] => { results := [.lit (.bool false)], args := [d] }
  | _ => none }
def FnLayoutTreeRowWrongFalsely : Prop := fnLayoutTreeRowRow.holds Try.pinned (OpenSpec.ofChange fnLayoutTreeRowWrong)

/-- 'laws.FnLayoutTreeOrder': WHATEVER THE INPUT: true; the input reads as it did. -/
def fnLayoutTreeOrderSpec : ChangeSpec := { name := "fnLayoutTreeOrder", fn := fun _ => fun
  | [d] => { results := [.lit (.bool true)], args := [d] }
  | _ => none }
def fnLayoutTreeOrderRow : OpenClaim := { program := "ytigniaebokknmaa", sum := "e6294f8b0d1519c8c3c8f89acac6f6f0e5a8b575322d06027223338039450cbf", func := "loop.example/flexlayout/laws.FnLayoutTreeOrder", spec := "fnLayoutTreeOrder", unfollowed := true, recurses := true, apart := false }
def FnLayoutTreeOrderSaid : Prop := fnLayoutTreeOrderRow.holds Try.pinned (OpenSpec.ofChange fnLayoutTreeOrderSpec)

/-- ITS FALSE NEIGHBOUR: 'it returns false'. Refute it at one input. -/
def fnLayoutTreeOrderWrong : ChangeSpec := { name := "fnLayoutTreeOrder", fn := fun _ => fun
  | [d] => { results := [.lit (.bool false)], args := [d] }
  | _ => none }
def FnLayoutTreeOrderWrongFalsely : Prop := fnLayoutTreeOrderRow.holds Try.pinned (OpenSpec.ofChange fnLayoutTreeOrderWrong)

/-- 'laws.FnLayoutTreeWide': WHATEVER THE INPUT: true; the input reads as it did. -/
def fnLayoutTreeWideSpec : ChangeSpec := { name := "fnLayoutTreeWide", fn := fun _ => fun
  | [d] => { results := [.lit (.bool true)], args := [d] }
  | _ => none }
def fnLayoutTreeWideRow : OpenClaim := { program := "ytigniaebokknmaa", sum := "e6294f8b0d1519c8c3c8f89acac6f6f0e5a8b575322d06027223338039450cbf", func := "loop.example/flexlayout/laws.FnLayoutTreeWide", spec := "fnLayoutTreeWide", unfollowed := true, recurses := true, apart := false }
def FnLayoutTreeWideSaid : Prop := fnLayoutTreeWideRow.holds Try.pinned (OpenSpec.ofChange fnLayoutTreeWideSpec)

/-- ITS FALSE NEIGHBOUR: 'it returns false'. Refute it at one input. -/
def fnLayoutTreeWideWrong : ChangeSpec := { name := "fnLayoutTreeWide", fn := fun _ => fun
  | [d] => { results := [.lit (.bool false)], args := [d] }
  | _ => none }
def FnLayoutTreeWideWrongFalsely : Prop := fnLayoutTreeWideRow.holds Try.pinned (OpenSpec.ofChange fnLayoutTreeWideWrong)

/-- 'laws.FnRectOfPart': WHATEVER THE INPUT: true; the input reads as it did. -/
def fnRectOfPartSpec : ChangeSpec := { name := "fnRectOfPart", fn := fun _ => fun
  | [d] => { results := [.lit (.bool true)], args := [d] }
  | _ => none }
def fnRectOfPartRow : OpenClaim := { program := "ytigniaebokknmaa", sum := "e6294f8b0d1519c8c3c8f89acac6f6f0e5a8b575322d06027223338039450cbf", func := "loop.example/flexlayout/laws.FnRectOfPart", spec := "fnRectOfPart", unfollowed := true, recurses := true, apart := false }
def FnRectOfPartSaid : Prop := fnRectOfPartRow.holds Try.pinned (OpenSpec.ofChange fnRectOfPartSpec)

/-- ITS FALSE NEIGHBOUR: 'it returns false'. Refute it at one input. -/
def fnRectOfPartWrong : ChangeSpec := { name := "fnRectOfPart", fn := fun _ => fun
  | [d] => { results := [.lit (.bool false)], args := [d] }
  | _ => none }
def FnRectOfPartWrongFalsely : Prop := fnRectOfPartRow.holds Try.pinned (OpenSpec.ofChange fnRectOfPartWrong)

/- THE SECOND FORM. 'bulk': how many values and letters a reading holds, each counted each time it is reached (what is shared counts as often as it is met; a slice's spare places count too). A statement '..UptoSaid' is the law's where the arguments, and the package variables that the reading takes, are together of bulk at most 1048576: NARROWER than '..Said'. Prove '..Said' where nothing that the law and all that it calls make is longer than what came in: it says more and counts as full. Else prove '..UptoSaid'. A law counts once. -/
mutual
def uptoBulk {H : Type} : DataW H → Nat
  | .lit (.string bytes) => bytes.length + 1
  | .lit _ => 1
  | .nil => 1
  | .ptr d => uptoBulk d + 1
  | .slice elems spare => uptoBulkAll elems + uptoBulkAll spare + 1
  | .agg parts => uptoBulkAll parts + 1
  | .iface _ d => uptoBulk d + 1
  | .map entries => uptoBulkEntries entries + 1
  | .held _ => 1
def uptoBulkAll {H : Type} : List (DataW H) → Nat
  | [] => 0
  | d :: r => uptoBulk d + uptoBulkAll r
def uptoBulkEntries {H : Type} : List (Lit × DataW H) → Nat
  | [] => 0
  | x :: r => uptoBulkEntry x + uptoBulkEntries r
def uptoBulkEntry {H : Type} : Lit × DataW H → Nat
  | (.string bytes, d) => bytes.length + uptoBulk d + 1
  | (_, d) => uptoBulk d + 1
 end
def uptoSmall : (H : Type) → List (DataW H) → Bool := fun _ ds => decide (uptoBulkAll ds ≤ 1048576)
def OpenSpec.upto (s : _root_.Go.ChangeSpec) : _root_.Go.OpenSpec := { _root_.Go.OpenSpec.ofChange s with cond := some uptoSmall }

/-- 'laws.FnLayoutTreeApart', WHERE WHAT IT READS IS OF BULK AT MOST 1048576: true; the input reads as it did. -/
def fnLayoutTreeApartUptoRow : OpenClaim := { program := "ytigniaebokknmaa", sum := "e6294f8b0d1519c8c3c8f89acac6f6f0e5a8b575322d06027223338039450cbf", func := "loop.example/flexlayout/laws.FnLayoutTreeApart", spec := "fnLayoutTreeApart", unfollowed := true, recurses := true, apart := false, narrowed := true }
def FnLayoutTreeApartUptoSaid : Prop := fnLayoutTreeApartUptoRow.holds Try.pinned (OpenSpec.upto fnLayoutTreeApartSpec)

/-- 'laws.FnLayoutTreeRow', WHERE WHAT IT READS IS OF BULK AT MOST 1048576: true; the input reads as it did. -/
def fnLayoutTreeRowUptoRow : OpenClaim := { program := "ytigniaebokknmaa", sum := "e6294f8b0d1519c8c3c8f89acac6f6f0e5a8b575322d06027223338039450cbf", func := "loop.example/flexlayout/laws.FnLayoutTreeRow", spec := "fnLayoutTreeRow", unfollowed := true, recurses := true, apart := false, narrowed := true }
def FnLayoutTreeRowUptoSaid : Prop := fnLayoutTreeRowUptoRow.holds Try.pinned (OpenSpec.upto fnLayoutTreeRowSpec)

/-- 'laws.FnLayoutTreeOrder', WHERE WHAT IT READS IS OF BULK AT MOST 1048576: true; the input reads as it did. -/
def fnLayoutTreeOrderUptoRow : OpenClaim := { program := "ytigniaebokknmaa", sum := "e6294f8b0d1519c8c3c8f89acac6f6f0e5a8b575322d06027223338039450cbf", func := "loop.example/flexlayout/laws.FnLayoutTreeOrder", spec := "fnLayoutTreeOrder", unfollowed := true, recurses := true, apart := false, narrowed := true }
def FnLayoutTreeOrderUptoSaid : Prop := fnLayoutTreeOrderUptoRow.holds Try.pinned (OpenSpec.upto fnLayoutTreeOrderSpec)

/-- 'laws.FnLayoutTreeWide', WHERE WHAT IT READS IS OF BULK AT MOST 1048576: true; the input reads as it did. -/
def fnLayoutTreeWideUptoRow : OpenClaim := { program := "ytigniaebokknmaa", sum := "e6294f8b0d1519c8c3c8f89acac6f6f0e5a8b575322d06027223338039450cbf", func := "loop.example/flexlayout/laws.FnLayoutTreeWide", spec := "fnLayoutTreeWide", unfollowed := true, recurses := true, apart := false, narrowed := true }
def FnLayoutTreeWideUptoSaid : Prop := fnLayoutTreeWideUptoRow.holds Try.pinned (OpenSpec.upto fnLayoutTreeWideSpec)

/-- 'laws.FnRectOfPart', WHERE WHAT IT READS IS OF BULK AT MOST 1048576: true; the input reads as it did. -/
def fnRectOfPartUptoRow : OpenClaim := { program := "ytigniaebokknmaa", sum := "e6294f8b0d1519c8c3c8f89acac6f6f0e5a8b575322d06027223338039450cbf", func := "loop.example/flexlayout/laws.FnRectOfPart", spec := "fnRectOfPart", unfollowed := true, recurses := true, apart := false, narrowed := true }
def FnRectOfPartUptoSaid : Prop := fnRectOfPartUptoRow.holds Try.pinned (OpenSpec.upto fnRectOfPartSpec)

end Rows
end Go.Proofs.Ytigniaebokknmaa
