/-
  No cell of these rows narrows 'for every input' (looked for: loops, veiled, ifaces, maps, wideKeys, modest, calm, conditions, laid).
  DERIVED. THE GIVEN ROWS OF THIS SEAT. 6 by the template 'for every input the law returns true; each argument reads behind the call as it read before'; 0 by the template 'total and deterministic' (their statements: YtokcbfnmnccacaaGreatTotals.lean).
  GIVEN WITH THE SEED: the statements are not yours to turn. If you find one false, say at which input.
  Laid BY PROGRAM, IN A SANDBOX (cutbox-rows.mjs): the forced cells as the released guide's own fill.sh prints them over the translation 0942bba566f94f3b… (all of the seat's roots in one cut). By AI agents, Wed Nov 11 2026. No macro, syntax, notation, axiom, sorry.
-/
import Derived.Test.YtokcbfnmnccacaaGreatChecked
import GoSem.Claim
import GoSem.ClaimJoined
import GoSem.ClaimMapViews
import Derived.JoinedTies
import Derived.KernelRfl
namespace Go.Proofs.YtokcbfnmnccacaaGreat
/- THE CELL 'sum', in the pinned program and in every row, IS THE sha256 OF THE DUMP (.gsa) THAT YtokcbfnmnccacaaGreatProg.lean LOADS. Nothing in Lean hashes anything: it is a label: what it is worth is what the hold of that sum in a sandbox is worth. -/
noncomputable def Tryz.pinned : Pinned := { name := "ytokcbfnmnccacaagreat", sum := "0942bba566f94f3bd45f1407703ab5562ce907bfed5cbe242210815e52c46a1d", checked := Tryz.checked }
namespace Rows
def none {H : Type} : Left H := { results := [], args := [] }

/-- 'laws.FnSpilling': WHATEVER THE INPUT: true; the input reads as it did. -/
def fnSpillingSpec : ChangeSpec := { name := "fnSpilling", fn := fun _ => fun
  | [d] => { results := [.lit (.bool true)], args := [d] }
  | _ => none }
def fnSpillingRow : OpenClaim := { program := "ytokcbfnmnccacaagreat", sum := "0942bba566f94f3bd45f1407703ab5562ce907bfed5cbe242210815e52c46a1d", func := "loop.example/flexlayout/laws.FnSpilling", spec := "fnSpilling", unfollowed := true, recurses := true, apart := false }
def FnSpillingSaid : Prop := fnSpillingRow.holds Tryz.pinned (OpenSpec.ofChange fnSpillingSpec)

/-- ITS FALSE NEIGHBOUR: 'it returns false'. Refute it at one input. -/
def fnSpillingWrong : ChangeSpec := { name := "fnSpilling", fn := fun _ => fun
  | [d] => { results := [.lit (.bool false)], args := [d] }
  | _ => none }
def FnSpillingWrongFalsely : Prop := fnSpillingRow.holds Tryz.pinned (OpenSpec.ofChange fnSpillingWrong)

/-- 'laws.FnSpillingNone': WHATEVER THE INPUT: true; the input reads as it did. -/
def fnSpillingNoneSpec : ChangeSpec := { name := "fnSpillingNone", fn := fun _ => fun
  | [d] => { results := [.lit (.bool true)], args := [d] }
  | _ => none }
def fnSpillingNoneRow : OpenClaim := { program := "ytokcbfnmnccacaagreat", sum := "0942bba566f94f3bd45f1407703ab5562ce907bfed5cbe242210815e52c46a1d", func := "loop.example/flexlayout/laws.FnSpillingNone", spec := "fnSpillingNone", unfollowed := true, recurses := true, apart := false }
def FnSpillingNoneSaid : Prop := fnSpillingNoneRow.holds Tryz.pinned (OpenSpec.ofChange fnSpillingNoneSpec)

/-- ITS FALSE NEIGHBOUR: 'it returns false'. Refute it at one input. -/
def fnSpillingNoneWrong : ChangeSpec := { name := "fnSpillingNone", fn := fun _ => fun
  | [d] => { results := [.lit (.bool false)], args := [d] }
  | _ => none }
def FnSpillingNoneWrongFalsely : Prop := fnSpillingNoneRow.holds Tryz.pinned (OpenSpec.ofChange fnSpillingNoneWrong)

/-- 'laws.FnSpillingLarge': WHATEVER THE INPUT: true; the input reads as it did. -/
def fnSpillingLargeSpec : ChangeSpec := { name := "fnSpillingLarge", fn := fun _ => fun
  | [d] => { results := [.lit (.bool true)], args := [d] }
  | _ => none }
def fnSpillingLargeRow : OpenClaim := { program := "ytokcbfnmnccacaagreat", sum := "0942bba566f94f3bd45f1407703ab5562ce907bfed5cbe242210815e52c46a1d", func := "loop.example/flexlayout/laws.FnSpillingLarge", spec := "fnSpillingLarge", unfollowed := true, recurses := true, apart := false }
def FnSpillingLargeSaid : Prop := fnSpillingLargeRow.holds Tryz.pinned (OpenSpec.ofChange fnSpillingLargeSpec)

/-- ITS FALSE NEIGHBOUR: 'it returns false'. Refute it at one input. -/
def fnSpillingLargeWrong : ChangeSpec := { name := "fnSpillingLarge", fn := fun _ => fun
  | [d] => { results := [.lit (.bool false)], args := [d] }
  | _ => none }
def FnSpillingLargeWrongFalsely : Prop := fnSpillingLargeRow.holds Tryz.pinned (OpenSpec.ofChange fnSpillingLargeWrong)

/-- 'laws.FnSeenBoxes': WHATEVER THE INPUT: true; the input reads as it did. -/
def fnSeenBoxesSpec : ChangeSpec := { name := "fnSeenBoxes", fn := fun _ => fun
  | [d] => { results := [.lit (.bool true)], args := [d] }
  | _ => none }
def fnSeenBoxesRow : OpenClaim := { program := "ytokcbfnmnccacaagreat", sum := "0942bba566f94f3bd45f1407703ab5562ce907bfed5cbe242210815e52c46a1d", func := "loop.example/flexlayout/laws.FnSeenBoxes", spec := "fnSeenBoxes", unfollowed := true, recurses := true, apart := false }
def FnSeenBoxesSaid : Prop := fnSeenBoxesRow.holds Tryz.pinned (OpenSpec.ofChange fnSeenBoxesSpec)

/-- ITS FALSE NEIGHBOUR: 'it returns false'. Refute it at one input. -/
def fnSeenBoxesWrong : ChangeSpec := { name := "fnSeenBoxes", fn := fun _ => fun
  | [d] => { results := [.lit (.bool false)], args := [d] }
  | _ => none }
def FnSeenBoxesWrongFalsely : Prop := fnSeenBoxesRow.holds Tryz.pinned (OpenSpec.ofChange fnSeenBoxesWrong)

/-- 'laws.FnSeenBoxesAll': WHATEVER THE INPUT: true; the input reads as it did. -/
def fnSeenBoxesAllSpec : ChangeSpec := { name := "fnSeenBoxesAll", fn := fun _ => fun
  | [d] => { results := [.lit (.bool true)], args := [d] }
  | _ => none }
def fnSeenBoxesAllRow : OpenClaim := { program := "ytokcbfnmnccacaagreat", sum := "0942bba566f94f3bd45f1407703ab5562ce907bfed5cbe242210815e52c46a1d", func := "loop.example/flexlayout/laws.FnSeenBoxesAll", spec := "fnSeenBoxesAll", unfollowed := true, recurses := true, apart := false }
def FnSeenBoxesAllSaid : Prop := fnSeenBoxesAllRow.holds Tryz.pinned (OpenSpec.ofChange fnSeenBoxesAllSpec)

/-- ITS FALSE NEIGHBOUR: 'it returns false'. Refute it at one input. -/
def fnSeenBoxesAllWrong : ChangeSpec := { name := "fnSeenBoxesAll", fn := fun _ => fun
  | [d] => { results := [.lit (.bool false)], args := [d] }
  | _ => none }
def FnSeenBoxesAllWrongFalsely : Prop := fnSeenBoxesAllRow.holds Tryz.pinned (OpenSpec.ofChange fnSeenBoxesAllWrong)

/-- 'laws.FnHitBox': WHATEVER THE INPUT: true; the input reads as it did. -/
def fnHitBoxSpec : ChangeSpec := { name := "fnHitBox", fn := fun _ => fun
  | [d] => { results := [.lit (.bool true)], args := [d] }
  | _ => none }
def fnHitBoxRow : OpenClaim := { program := "ytokcbfnmnccacaagreat", sum := "0942bba566f94f3bd45f1407703ab5562ce907bfed5cbe242210815e52c46a1d", func := "loop.example/flexlayout/laws.FnHitBox", spec := "fnHitBox", unfollowed := true, recurses := true, apart := false }
def FnHitBoxSaid : Prop := fnHitBoxRow.holds Tryz.pinned (OpenSpec.ofChange fnHitBoxSpec)

/-- ITS FALSE NEIGHBOUR: 'it returns false'. Refute it at one input. -/
def fnHitBoxWrong : ChangeSpec := { name := "fnHitBox", fn := fun _ => fun
  | [d] => { results := [.lit (.bool false)], args := [d] }
  | _ => none }
def FnHitBoxWrongFalsely : Prop := fnHitBoxRow.holds Tryz.pinned (OpenSpec.ofChange fnHitBoxWrong)

/- THE SECOND FORM. 'bulk': how many values and letters a reading holds, each counted each time it is reached (what is shared counts as often as it is met; a slice's spare places count too). A statement '..UptoSaid' is the law's where the arguments, and the package variables that the reading takes, are together of bulk at most 1048576: NARROWER than '..Said'. Prove '..Said' where nothing that the law and all that it calls make is longer than what came in: it says more and counts as full. Else prove '..UptoSaid'. A law counts once. -/
mutual
def uptoBulk {H : Type} : DataW H → Nat
  | .lit (.string bytes) => bytes.length + 1
  | .lit _ => 1
  | .nil => 1
  | .ptr d => uptoBulk d + 1
  | .slice elems spare => uptoBulkAll elems + uptoBulkAll spare + 1
  | .agg parts => uptoBulkAll parts + 1
  | .iface _ d => uptoBulk d + 1
  | .map entries => uptoBulkEntries entries + 1
  | .held _ => 1
def uptoBulkAll {H : Type} : List (DataW H) → Nat
  | [] => 0
  | d :: r => uptoBulk d + uptoBulkAll r
def uptoBulkEntries {H : Type} : List (Lit × DataW H) → Nat
  | [] => 0
  | x :: r => uptoBulkEntry x + uptoBulkEntries r
def uptoBulkEntry {H : Type} : Lit × DataW H → Nat
  | (.string bytes, d) => bytes.length + uptoBulk d + 1
  | (_, d) => uptoBulk d + 1
 end
def uptoSmall : (H : Type) → List (DataW H) → Bool := fun _ ds => decide (uptoBulkAll ds ≤ 1048576)
def OpenSpec.upto (s : _root_.Go.ChangeSpec) : _root_.Go.OpenSpec := { _root_.Go.OpenSpec.ofChange s with cond := some uptoSmall }

/-- 'laws.FnSpilling', WHERE WHAT IT READS IS OF BULK AT MOST 1048576: true; the input reads as it did. -/
def fnSpillingUptoRow : OpenClaim := { program := "ytokcbfnmnccacaagreat", sum := "0942bba566f94f3bd45f1407703ab5562ce907bfed5cbe242210815e52c46a1d", func := "loop.example/flexlayout/laws.FnSpilling", spec := "fnSpilling", unfollowed := true, recurses := true, apart := false, narrowed := true }
def FnSpillingUptoSaid : Prop := fnSpillingUptoRow.holds Tryz.pinned (OpenSpec.upto fnSpillingSpec)

/-- 'laws.FnSpillingNone', WHERE WHAT IT READS IS OF BULK AT MOST 1048576: true; the input reads as it did. -/
def fnSpillingNoneUptoRow : OpenClaim := { program := "ytokcbfnmnccacaagreat", sum := "0942bba566f94f3bd45f1407703ab5562ce907bfed5cbe242210815e52c46a1d", func := "loop.example/flexlayout/laws.FnSpillingNone", spec := "fnSpillingNone", unfollowed := true, recurses := true, apart := false, narrowed := true }
def FnSpillingNoneUptoSaid : Prop := fnSpillingNoneUptoRow.holds Tryz.pinned (OpenSpec.upto fnSpillingNoneSpec)

/-- 'laws.FnSpillingLarge', WHERE WHAT IT READS IS OF BULK AT MOST 1048576: true; the input reads as it did. -/
def fnSpillingLargeUptoRow : OpenClaim := { program := "ytokcbfnmnccacaagreat", sum := "0942bba566f94f3bd45f1407703ab5562ce907bfed5cbe242210815e52c46a1d", func := "loop.example/flexlayout/laws.FnSpillingLarge", spec := "fnSpillingLarge", unfollowed := true, recurses := true, apart := false, narrowed := true }
def FnSpillingLargeUptoSaid : Prop := fnSpillingLargeUptoRow.holds Tryz.pinned (OpenSpec.upto fnSpillingLargeSpec)

/-- 'laws.FnSeenBoxes', WHERE WHAT IT READS IS OF BULK AT MOST 1048576: true; the input reads as it did. -/
def fnSeenBoxesUptoRow : OpenClaim := { program := "ytokcbfnmnccacaagreat", sum := "0942bba566f94f3bd45f1407703ab5562ce907bfed5cbe242210815e52c46a1d", func := "loop.example/flexlayout/laws.FnSeenBoxes", spec := "fnSeenBoxes", unfollowed := true, recurses := true, apart := false, narrowed := true }
def FnSeenBoxesUptoSaid : Prop := fnSeenBoxesUptoRow.holds Tryz.pinned (OpenSpec.upto fnSeenBoxesSpec)

/-- 'laws.FnSeenBoxesAll', WHERE WHAT IT READS IS OF BULK AT MOST 1048576: true; the input reads as it did. -/
def fnSeenBoxesAllUptoRow : OpenClaim := { program := "ytokcbfnmnccacaagreat", sum := "0942bba566f94f3bd45f1407703ab5562ce907bfed5cbe242210815e52c46a1d", func := "loop.example/flexlayout/laws.FnSeenBoxesAll", spec := "fnSeenBoxesAll", unfollowed := true, recurses := true, apart := false, narrowed := true }
def FnSeenBoxesAllUptoSaid : Prop := fnSeenBoxesAllUptoRow.holds Tryz.pinned (OpenSpec.upto fnSeenBoxesAllSpec)

/-- 'laws.FnHitBox', WHERE WHAT IT READS IS OF BULK AT MOST 1048576: true; the input reads as it did. -/
def fnHitBoxUptoRow : OpenClaim := { program := "ytokcbfnmnccacaagreat", sum := "0942bba566f94f3bd45f1407703ab5562ce907bfed5cbe242210815e52c46a1d", func := "loop.example/flexlayout/laws.FnHitBox", spec := "fnHitBox", unfollowed := true, recurses := true, apart := false, narrowed := true }
def FnHitBoxUptoSaid : Prop := fnHitBoxUptoRow.holds Tryz.pinned (OpenSpec.upto fnHitBoxSpec)

end Rows
end Go.Proofs.YtokcbfnmnccacaaGreat
