/-
  No cell of these rows narrows 'for every input' (looked for: loops, veiled, ifaces, maps, wideKeys, modest, calm, conditions, laid).
  DERIVED. THE GIVEN ROWS OF THIS SEAT. 6 by the template 'for every input the law returns true; each argument reads behind the call as it read before'; 0 by the template 'total and deterministic' (their statements: YtokcbfnmnccacaaTotals.lean).
  GIVEN WITH THE SEED: the statements are not yours to turn. If you find one false, say at which input.
  Laid BY PROGRAM, IN A SANDBOX (cutbox-rows.mjs): the forced cells as the released guide's own fill.sh prints them over the translation f2fd70ca39d58163… (all of the seat's roots in one cut). By AI agents, Wed Nov 11 2026. No macro, syntax, notation, axiom, sorry.
-/
import Derived.Test.YtokcbfnmnccacaaChecked
import GoSem.Claim
import GoSem.ClaimJoined
import GoSem.ClaimMapViews
import Derived.JoinedTies
import Derived.KernelRfl
namespace Go.Proofs.Ytokcbfnmnccacaa
/- THE CELL 'sum', in the pinned program and in every row, IS THE sha256 OF THE DUMP (.gsa) THAT YtokcbfnmnccacaaProg.lean LOADS. Nothing in Lean hashes anything: it is a label: what it is worth is what the hold of that sum in a sandbox is worth. -/
noncomputable def Try.pinned : Pinned := { name := "ytokcbfnmnccacaa", sum := "f2fd70ca39d581634d490d123b0277570174222971897f1426122ab772ee90c9", checked := Try.checked }
namespace Rows
def none {H : Type} : Left H := { results := [], args := [] }

/-- 'laws.FnExactSpilling': WHATEVER THE INPUT: true; the input reads as it did. -/
def fnExactSpillingSpec : ChangeSpec := { name := "fnExactSpilling", fn := fun _ => fun
  | [d1, d2, d3] => { results := [.lit (.bool true)], args := [d1, d2, d3] }
  | _ => none }
def fnExactSpillingRow : OpenClaim := { program := "ytokcbfnmnccacaa", sum := "f2fd70ca39d581634d490d123b0277570174222971897f1426122ab772ee90c9", func := "loop.example/flexlayout/laws.FnExactSpilling", spec := "fnExactSpilling", unfollowed := true, recurses := true, apart := false }
def FnExactSpillingSaid : Prop := fnExactSpillingRow.holds Try.pinned (OpenSpec.ofChange fnExactSpillingSpec)

/-- ITS FALSE NEIGHBOUR: 'it returns false'. Refute it at one input. -/
def fnExactSpillingWrong : ChangeSpec := { name := "fnExactSpilling", fn := fun _ => fun
  | [d1, d2, d3] => { results := [.lit (.bool false)], args := [d1, d2, d3] }
  | _ => none }
def FnExactSpillingWrongFalsely : Prop := fnExactSpillingRow.holds Try.pinned (OpenSpec.ofChange fnExactSpillingWrong)

/-- 'laws.FnExactSeenBoxes': WHATEVER THE INPUT: true; the input reads as it did. -/
def fnExactSeenBoxesSpec : ChangeSpec := { name := "fnExactSeenBoxes", fn := fun _ => fun
  | [d1, d2, d3, d4] => { results := [.lit (.bool true)], args := [d1, d2, d3, d4] }
  | _ => none }
def fnExactSeenBoxesRow : OpenClaim := { program := "ytokcbfnmnccacaa", sum := "f2fd70ca39d581634d490d123b0277570174222971897f1426122ab772ee90c9", func := "loop.example/flexlayout/laws.FnExactSeenBoxes", spec := "fnExactSeenBoxes", unfollowed := true, recurses := true, apart := false }
def FnExactSeenBoxesSaid : Prop := fnExactSeenBoxesRow.holds Try.pinned (OpenSpec.ofChange fnExactSeenBoxesSpec)

/-- ITS FALSE NEIGHBOUR: 'it returns false'. Refute it at one input. -/
def fnExactSeenBoxesWrong : ChangeSpec := { name := "fnExactSeenBoxes", fn := fun _ => fun
  | [d1, d2, d3, d4] => { results := [.lit (.bool false)], args := [d1, d2, d3, d4] }
  | _ => none }
def FnExactSeenBoxesWrongFalsely : Prop := fnExactSeenBoxesRow.holds Try.pinned (OpenSpec.ofChange fnExactSeenBoxesWrong)

/-- 'laws.FnExactHitBox': WHATEVER THE INPUT: true; the input reads as it did. -/
def fnExactHitBoxSpec : ChangeSpec := { name := "fnExactHitBox", fn := fun _ => fun
  | [d1, d2, d3, d4, d5] => { results := [.lit (.bool true)], args := [d1, d2, d3, d4, d5] }
  | _ => none }
def fnExactHitBoxRow : OpenClaim := { program := "ytokcbfnmnccacaa", sum := "f2fd70ca39d581634d490d123b0277570174222971897f1426122ab772ee90c9", func := "loop.example/flexlayout/laws.FnExactHitBox", spec := "fnExactHitBox", unfollowed := true, recurses := true, apart := false }
def FnExactHitBoxSaid : Prop := fnExactHitBoxRow.holds Try.pinned (OpenSpec.ofChange fnExactHitBoxSpec)

/-- ITS FALSE NEIGHBOUR: 'it returns false'. Refute it at one input. -/
def fnExactHitBoxWrong : ChangeSpec := { name := "fnExactHitBox", fn := fun _ => fun
  | [d1, d2, d3, d4, d5] => { results := [.lit (.bool false)], args := [d1, d2, d3, d4, d5] }
  | _ => none }
def FnExactHitBoxWrongFalsely : Prop := fnExactHitBoxRow.holds Try.pinned (OpenSpec.ofChange fnExactHitBoxWrong)

/-- 'laws.FnRectOfScreen': WHATEVER THE INPUT: true; the input reads as it did. -/
def fnRectOfScreenSpec : ChangeSpec := { name := "fnRectOfScreen", fn := fun _ => fun
  | [d] => { results := [.lit (.bool true)], args := [d] }
  | _ => none }
def fnRectOfScreenRow : OpenClaim := { program := "ytokcbfnmnccacaa", sum := "f2fd70ca39d581634d490d123b0277570174222971897f1426122ab772ee90c9", func := "loop.example/flexlayout/laws.FnRectOfScreen", spec := "fnRectOfScreen", unfollowed := true, recurses := true, apart := false }
def FnRectOfScreenSaid : Prop := fnRectOfScreenRow.holds Try.pinned (OpenSpec.ofChange fnRectOfScreenSpec)

/-- ITS FALSE NEIGHBOUR: 'it returns false'. Refute it at one input. -/
def fnRectOfScreenWrong : ChangeSpec := { name := "fnRectOfScreen", fn := fun _ => fun
  | [d] => { results := [.lit (.bool false)], args := [d] }
  | _ => none }
def FnRectOfScreenWrongFalsely : Prop := fnRectOfScreenRow.holds Try.pinned (OpenSpec.ofChange fnRectOfScreenWrong)

/-- 'laws.FnHitBoxScreen': WHATEVER THE INPUT: true; the input reads as it did. -/
def fnHitBoxScreenSpec : ChangeSpec := { name := "fnHitBoxScreen", fn := fun _ => fun
  | [d] => { results := [.lit (.bool true)], args := [d] }
  | _ => none }
def fnHitBoxScreenRow : OpenClaim := { program := "ytokcbfnmnccacaa", sum := "f2fd70ca39d581634d490d123b0277570174222971897f1426122ab772ee90c9", func := "loop.example/flexlayout/laws.FnHitBoxScreen", spec := "fnHitBoxScreen", unfollowed := true, recurses := true, apart := false }
def FnHitBoxScreenSaid : Prop := fnHitBoxScreenRow.holds Try.pinned (OpenSpec.ofChange fnHitBoxScreenSpec)

/-- ITS FALSE NEIGHBOUR: 'it returns false'. Refute it at one input. -/
def fnHitBoxScreenWrong : ChangeSpec := { name := "fnHitBoxScreen", fn := fun _ => fun
  | [d] => { results := [.lit (.bool false)], args := [d] }
  | _ => none }
def FnHitBoxScreenWrongFalsely : Prop := fnHitBoxScreenRow.holds Try.pinned (OpenSpec.ofChange fnHitBoxScreenWrong)

/-- 'laws.FnHitBoxInner': WHATEVER THE INPUT: true; the input reads as it did. -/
def fnHitBoxInnerSpec : ChangeSpec := { name := "fnHitBoxInner", fn := fun _ => fun
  | [d] => { results := [.lit (.bool true)], args := [d] }
  | _ => none }
def fnHitBoxInnerRow : OpenClaim := { program := "ytokcbfnmnccacaa", sum := "f2fd70ca39d581634d490d123b0277570174222971897f1426122ab772ee90c9", func := "loop.example/flexlayout/laws.FnHitBoxInner", spec := "fnHitBoxInner", unfollowed := true, recurses := true, apart := false }
def FnHitBoxInnerSaid : Prop := fnHitBoxInnerRow.holds Try.pinned (OpenSpec.ofChange fnHitBoxInnerSpec)

/-- ITS FALSE NEIGHBOUR: 'it returns false'. Refute it at one input. -/
def fnHitBoxInnerWrong : ChangeSpec := { name := "fnHitBoxInner", fn := fun _ => fun
  | [d] => { results := [.lit (.bool false)], args := [d] }
  | _ => none }
def FnHitBoxInnerWrongFalsely : Prop := fnHitBoxInnerRow.holds Try.pinned (OpenSpec.ofChange fnHitBoxInnerWrong)

/- THE SECOND FORM. 'bulk': how many values and letters a reading holds, each counted each time it is reached (what is shared counts as often as it is met; a slice's spare places count too). A statement '..UptoSaid' is the law's where the arguments, and the package variables that the reading takes, are together of bulk at most 1048576: NARROWER than '..Said'. Prove '..Said' where nothing that the law and all that it calls make is longer than what came in: it says more and counts as full. Else prove '..UptoSaid'. A law counts once. -/
mutual
def uptoBulk {H : Type} : DataW H → Nat
  | .lit (.string bytes) => bytes.length + 1
  | .lit _ => 1
  | .nil => 1
  | .ptr d => uptoBulk d + 1
  | .slice elems spare => uptoBulkAll elems + uptoBulkAll spare + 1
  | .agg parts => uptoBulkAll parts + 1
  | .iface _ d => uptoBulk d + 1
  | .map entries => uptoBulkEntries entries + 1
  | .held _ => 1
def uptoBulkAll {H : Type} : List (DataW H) → Nat
  | [] => 0
  | d :: r => uptoBulk d + uptoBulkAll r
def uptoBulkEntries {H : Type} : List (Lit × DataW H) → Nat
  | [] => 0
  | x :: r => uptoBulkEntry x + uptoBulkEntries r
def uptoBulkEntry {H : Type} : Lit × DataW H → Nat
  | (.string bytes, d) => bytes.length + uptoBulk d + 1
  | (_, d) => uptoBulk d + 1
 end
def uptoSmall : (H : Type) → List (DataW H) → Bool := fun _ ds => decide (uptoBulkAll ds ≤ 1048576)
def OpenSpec.upto (s : _root_.Go.ChangeSpec) : _root_.Go.OpenSpec := { _root_.Go.OpenSpec.ofChange s with cond := some uptoSmall }

/-- 'laws.FnExactSpilling', WHERE WHAT IT READS IS OF BULK AT MOST 1048576: true; the input reads as it did. -/
def fnExactSpillingUptoRow : OpenClaim := { program := "ytokcbfnmnccacaa", sum := "f2fd70ca39d581634d490d123b0277570174222971897f1426122ab772ee90c9", func := "loop.example/flexlayout/laws.FnExactSpilling", spec := "fnExactSpilling", unfollowed := true, recurses := true, apart := false, narrowed := true }
def FnExactSpillingUptoSaid : Prop := fnExactSpillingUptoRow.holds Try.pinned (OpenSpec.upto fnExactSpillingSpec)

/-- 'laws.FnExactSeenBoxes', WHERE WHAT IT READS IS OF BULK AT MOST 1048576: true; the input reads as it did. -/
def fnExactSeenBoxesUptoRow : OpenClaim := { program := "ytokcbfnmnccacaa", sum := "f2fd70ca39d581634d490d123b0277570174222971897f1426122ab772ee90c9", func := "loop.example/flexlayout/laws.FnExactSeenBoxes", spec := "fnExactSeenBoxes", unfollowed := true, recurses := true, apart := false, narrowed := true }
def FnExactSeenBoxesUptoSaid : Prop := fnExactSeenBoxesUptoRow.holds Try.pinned (OpenSpec.upto fnExactSeenBoxesSpec)

/-- 'laws.FnExactHitBox', WHERE WHAT IT READS IS OF BULK AT MOST 1048576: true; the input reads as it did. -/
def fnExactHitBoxUptoRow : OpenClaim := { program := "ytokcbfnmnccacaa", sum := "f2fd70ca39d581634d490d123b0277570174222971897f1426122ab772ee90c9", func := "loop.example/flexlayout/laws.FnExactHitBox", spec := "fnExactHitBox", unfollowed := true, recurses := true, apart := false, narrowed := true }
def FnExactHitBoxUptoSaid : Prop := fnExactHitBoxUptoRow.holds Try.pinned (OpenSpec.upto fnExactHitBoxSpec)

/-- 'laws.FnRectOfScreen', WHERE WHAT IT READS IS OF BULK AT MOST 1048576: true; the input reads as it did. -/
def fnRectOfScreenUptoRow : OpenClaim := { program := "ytokcbfnmnccacaa", sum := "f2fd70ca39d581634d490d123b0277570174222971897f1426122ab772ee90c9", func := "loop.example/flexlayout/laws.FnRectOfScreen", spec := "fnRectOfScreen", unfollowed := true, recurses := true, apart := false, narrowed := true }
def FnRectOfScreenUptoSaid : Prop := fnRectOfScreenUptoRow.holds Try.pinned (OpenSpec.upto fnRectOfScreenSpec)

/-- 'laws.FnHitBoxScreen', WHERE WHAT IT READS IS OF BULK AT MOST 1048576: true; the input reads as it did. -/
def fnHitBoxScreenUptoRow : OpenClaim := { program := "ytokcbfnmnccacaa", sum := "f2fd70ca39d581634d490d123b0277570174222971897f1426122ab772ee90c9", func := "loop.example/flexlayout/laws.FnHitBoxScreen", spec := "fnHitBoxScreen", unfollowed := true, recurses := true, apart := false, narrowed := true }
def FnHitBoxScreenUptoSaid : Prop := fnHitBoxScreenUptoRow.holds Try.pinned (OpenSpec.upto fnHitBoxScreenSpec)

/-- 'laws.FnHitBoxInner', WHERE WHAT IT READS IS OF BULK AT MOST 1048576: true; the input reads as it did. -/
def fnHitBoxInnerUptoRow : OpenClaim := { program := "ytokcbfnmnccacaa", sum := "f2fd70ca39d581634d490d123b0277570174222971897f1426122ab772ee90c9", func := "loop.example/flexlayout/laws.FnHitBoxInner", spec := "fnHitBoxInner", unfollowed := true, recurses := true, apart := false, narrowed := true }
def FnHitBoxInnerUptoSaid : Prop := fnHitBoxInnerUptoRow.holds Try.pinned (OpenSpec.upto fnHitBoxInnerSpec)

end Rows
end Go.Proofs.Ytokcbfnmnccacaa
