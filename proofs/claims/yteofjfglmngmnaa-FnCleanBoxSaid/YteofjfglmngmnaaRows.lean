/-
  No cell of these rows narrows 'for every input' (looked for: loops, veiled, ifaces, maps, wideKeys, modest, calm, conditions, laid).
  DERIVED. THE GIVEN ROWS OF THIS SEAT. 12 by the template 'for every input the law returns true; each argument reads behind the call as it read before'; 0 by the template 'total and deterministic' (their statements: YteofjfglmngmnaaTotals.lean).
  GIVEN WITH THE SEED: the statements are not yours to turn. If you find one false, say at which input.
  Laid BY PROGRAM, IN A SANDBOX (cutbox-rows.mjs): the forced cells as the released guide's own fill.sh prints them over the translation 7488f5d8fec924e2… (all of the seat's roots in one cut). By AI agents, Wed Nov 11 2026. No macro, syntax, notation, axiom, sorry.
-/
import Derived.Test.YteofjfglmngmnaaChecked
import GoSem.Claim
import GoSem.ClaimJoined
import GoSem.ClaimMapViews
import Derived.JoinedTies
import Derived.KernelRfl
namespace Go.Proofs.Yteofjfglmngmnaa
/- THE CELL 'sum', in the pinned program and in every row, IS THE sha256 OF THE DUMP (.gsa) THAT YteofjfglmngmnaaProg.lean LOADS. Nothing in Lean hashes anything: it is a label: what it is worth is what the hold of that sum in a sandbox is worth. -/
noncomputable def Try.pinned : Pinned := { name := "yteofjfglmngmnaa", sum := "7488f5d8fec924e278c4bad6735107935ff9c5a0d81a19f314443236b789d2df", checked := Try.checked }
namespace Rows
def none {H : Type} : Left H := { results := [], args := [] }

/-- 'laws.FnFinishFramesMore': WHATEVER THE INPUT: true; the input reads as it did. -/
def fnFinishFramesMoreSpec : ChangeSpec := { name := "fnFinishFramesMore", fn := fun _ => fun
  | [d] => { results := [.lit (.bool true)], args := [d] }
  | _ => none }
def fnFinishFramesMoreRow : OpenClaim := { program := "yteofjfglmngmnaa", sum := "7488f5d8fec924e278c4bad6735107935ff9c5a0d81a19f314443236b789d2df", func := "loop.example/flexlayout/laws.FnFinishFramesMore", spec := "fnFinishFramesMore", apart := false }
def FnFinishFramesMoreSaid : Prop := fnFinishFramesMoreRow.holds Try.pinned (OpenSpec.ofChange fnFinishFramesMoreSpec)

/-- ITS FALSE NEIGHBOUR: 'it returns false'. Refute it at one input. -/
def fnFinishFramesMoreWrong : ChangeSpec := { name := "fnFinishFramesMore", fn := fun _ => fun
  | [d] => { results := [.lit (.bool false)], args := [d] }
  | _ => none }
def FnFinishFramesMoreWrongFalsely : Prop := fnFinishFramesMoreRow.holds Try.pinned (OpenSpec.ofChange fnFinishFramesMoreWrong)

/-- 'laws.FnWorkLeftDone': WHATEVER THE INPUT: true; the input reads as it did. -/
def fnWorkLeftDoneSpec : ChangeSpec := { name := "fnWorkLeftDone", fn := fun _ => fun
  | [d] => { results := [.lit (.bool true)], args := [d] }
  | _ => none }
def fnWorkLeftDoneRow : OpenClaim := { program := "yteofjfglmngmnaa", sum := "7488f5d8fec924e278c4bad6735107935ff9c5a0d81a19f314443236b789d2df", func := "loop.example/flexlayout/laws.FnWorkLeftDone", spec := "fnWorkLeftDone", apart := false }
def FnWorkLeftDoneSaid : Prop := fnWorkLeftDoneRow.holds Try.pinned (OpenSpec.ofChange fnWorkLeftDoneSpec)

/-- ITS FALSE NEIGHBOUR: 'it returns false'. Refute it at one input. -/
def fnWorkLeftDoneWrong : ChangeSpec := { name := "fnWorkLeftDone", fn := fun _ => fun
  | [d] => { results := [.lit (.bool false)], args := [d] }
  | _ => none }
def FnWorkLeftDoneWrongFalsely : Prop := fnWorkLeftDoneRow.holds Try.pinned (OpenSpec.ofChange fnWorkLeftDoneWrong)

/-- 'laws.FnIdleTimeLeft': WHATEVER THE INPUT: true; the input reads as it did. -/
def fnIdleTimeLeftSpec : ChangeSpec := { name := "fnIdleTimeLeft", fn := fun _ => fun
  | [d] => { results := [.lit (.bool true)], args := [d] }
  | _ => none }
def fnIdleTimeLeftRow : OpenClaim := { program := "yteofjfglmngmnaa", sum := "7488f5d8fec924e278c4bad6735107935ff9c5a0d81a19f314443236b789d2df", func := "loop.example/flexlayout/laws.FnIdleTimeLeft", spec := "fnIdleTimeLeft", apart := false }
def FnIdleTimeLeftSaid : Prop := fnIdleTimeLeftRow.holds Try.pinned (OpenSpec.ofChange fnIdleTimeLeftSpec)

/-- ITS FALSE NEIGHBOUR: 'it returns false'. Refute it at one input. -/
def fnIdleTimeLeftWrong : ChangeSpec := { name := "fnIdleTimeLeft", fn := fun _ => fun
  | [d] => { results := [.lit (.bool false)], args := [d] }
  | _ => none }
def FnIdleTimeLeftWrongFalsely : Prop := fnIdleTimeLeftRow.holds Try.pinned (OpenSpec.ofChange fnIdleTimeLeftWrong)

/-- 'laws.FnExactDirtyRoots': WHATEVER THE INPUT: true; the input reads as it did. -/
def fnExactDirtyRootsSpec : ChangeSpec := { name := "fnExactDirtyRoots", fn := fun _ => fun
  | [d1, d2] => { results := [.lit (.bool true)], args := [d1, d2] }
  | _ => none }
def fnExactDirtyRootsRow : OpenClaim := { program := "yteofjfglmngmnaa", sum := "7488f5d8fec924e278c4bad6735107935ff9c5a0d81a19f314443236b789d2df", func := "loop.example/flexlayout/laws.FnExactDirtyRoots", spec := "fnExactDirtyRoots", apart := false }
def FnExactDirtyRootsSaid : Prop := fnExactDirtyRootsRow.holds Try.pinned (OpenSpec.ofChange fnExactDirtyRootsSpec)

/-- ITS FALSE NEIGHBOUR: 'it returns false'. Refute it at one input. -/
def fnExactDirtyRootsWrong : ChangeSpec := { name := "fnExactDirtyRoots", fn := fun _ => fun
  | [d1, d2] => { results := [.lit (.bool false)], args := [d1, d2] }
  | _ => none }
def FnExactDirtyRootsWrongFalsely : Prop := fnExactDirtyRootsRow.holds Try.pinned (OpenSpec.ofChange fnExactDirtyRootsWrong)

/-- 'laws.FnExactDirtyBoxes': WHATEVER THE INPUT: true; the input reads as it did. -/
def fnExactDirtyBoxesSpec : ChangeSpec := { name := "fnExactDirtyBoxes", fn := fun _ => fun
  | [d1, d2] => { results := [.lit (.bool true)], args := [d1, d2] }
  | _ => none }
def fnExactDirtyBoxesRow : OpenClaim := { program := "yteofjfglmngmnaa", sum := "7488f5d8fec924e278c4bad6735107935ff9c5a0d81a19f314443236b789d2df", func := "loop.example/flexlayout/laws.FnExactDirtyBoxes", spec := "fnExactDirtyBoxes", apart := false }
def FnExactDirtyBoxesSaid : Prop := fnExactDirtyBoxesRow.holds Try.pinned (OpenSpec.ofChange fnExactDirtyBoxesSpec)

/-- ITS FALSE NEIGHBOUR: 'it returns false'. Refute it at one input. -/
def fnExactDirtyBoxesWrong : ChangeSpec := { name := "fnExactDirtyBoxes", fn := fun _ => fun
  | [d1, d2] => { results := [.lit (.bool false)], args := [d1, d2] }
  | _ => none }
def FnExactDirtyBoxesWrongFalsely : Prop := fnExactDirtyBoxesRow.holds Try.pinned (OpenSpec.ofChange fnExactDirtyBoxesWrong)

/-- 'laws.FnExactCleanBox': WHATEVER THE INPUT: true; the input reads as it did. -/
def fnExactCleanBoxSpec : ChangeSpec := { name := "fnExactCleanBox", fn := fun _ => fun
  | [d1, d2, d3] => { results := [.lit (.bool true)], args := [d1, d2, d3] }
  | _ => none }
def fnExactCleanBoxRow : OpenClaim := { program := "yteofjfglmngmnaa", sum := "7488f5d8fec924e278c4bad6735107935ff9c5a0d81a19f314443236b789d2df", func := "loop.example/flexlayout/laws.FnExactCleanBox", spec := "fnExactCleanBox", unfollowed := true, recurses := true, apart := false }
def FnExactCleanBoxSaid : Prop := fnExactCleanBoxRow.holds Try.pinned (OpenSpec.ofChange fnExactCleanBoxSpec)

/-- ITS FALSE NEIGHBOUR: 'it returns false'. Refute it at one input. -/
def fnExactCleanBoxWrong : ChangeSpec := { name := "fnExactCleanBox", fn := fun _ => fun
  | [d1, d2, d3] => { results := [.lit (.bool false)], args := [d1, d2, d3] }
  | _ => none }
def FnExactCleanBoxWrongFalsely : Prop := fnExactCleanBoxRow.holds Try.pinned (OpenSpec.ofChange fnExactCleanBoxWrong)

/-- 'laws.FnExactLayoutRoot': WHATEVER THE INPUT: true; the input reads as it did. -/
def fnExactLayoutRootSpec : ChangeSpec := { name := "fnExactLayoutRoot", fn := fun _ => fun
  | [d1, d2] => { results := [.lit (.bool true)], args := [d1, d2] }
  | _ => none }
def fnExactLayoutRootRow : OpenClaim := { program := "yteofjfglmngmnaa", sum := "7488f5d8fec924e278c4bad6735107935ff9c5a0d81a19f314443236b789d2df", func := "loop.example/flexlayout/laws.FnExactLayoutRoot", spec := "fnExactLayoutRoot", apart := false }
def FnExactLayoutRootSaid : Prop := fnExactLayoutRootRow.holds Try.pinned (OpenSpec.ofChange fnExactLayoutRootSpec)

/-- ITS FALSE NEIGHBOUR: 'it returns false'. Refute it at one input. -/
def fnExactLayoutRootWrong : ChangeSpec := { name := "fnExactLayoutRoot", fn := fun _ => fun
  | [d1, d2] => { results := [.lit (.bool false)], args := [d1, d2] }
  | _ => none }
def FnExactLayoutRootWrongFalsely : Prop := fnExactLayoutRootRow.holds Try.pinned (OpenSpec.ofChange fnExactLayoutRootWrong)

/-- 'laws.FnDirtyRoots': WHATEVER THE INPUT: true; the input reads as it did. -/
def fnDirtyRootsSpec : ChangeSpec := { name := "fnDirtyRoots", fn := fun _ => fun
  | [d] => { results := [.lit (.bool true)], args := [d] }
  | _ => none }
def fnDirtyRootsRow : OpenClaim := { program := "yteofjfglmngmnaa", sum := "7488f5d8fec924e278c4bad6735107935ff9c5a0d81a19f314443236b789d2df", func := "loop.example/flexlayout/laws.FnDirtyRoots", spec := "fnDirtyRoots", apart := false }
def FnDirtyRootsSaid : Prop := fnDirtyRootsRow.holds Try.pinned (OpenSpec.ofChange fnDirtyRootsSpec)

/-- ITS FALSE NEIGHBOUR: 'it returns false'. Refute it at one input. -/
def fnDirtyRootsWrong : ChangeSpec := { name := "fnDirtyRoots", fn := fun _ => fun
  | [d] => { results := [.lit (.bool false)], args := [d] }
  | _ => none }
def FnDirtyRootsWrongFalsely : Prop := fnDirtyRootsRow.holds Try.pinned (OpenSpec.ofChange fnDirtyRootsWrong)

/-- 'laws.FnDirtyRootsAgain': WHATEVER THE INPUT: true; the input reads as it did. -/
def fnDirtyRootsAgainSpec : ChangeSpec := { name := "fnDirtyRootsAgain", fn := fun _ => fun
  | [d] => { results := [.lit (.bool true)], args := [d] }
  | _ => none }
def fnDirtyRootsAgainRow : OpenClaim := { program := "yteofjfglmngmnaa", sum := "7488f5d8fec924e278c4bad6735107935ff9c5a0d81a19f314443236b789d2df", func := "loop.example/flexlayout/laws.FnDirtyRootsAgain", spec := "fnDirtyRootsAgain", apart := false }
def FnDirtyRootsAgainSaid : Prop := fnDirtyRootsAgainRow.holds Try.pinned (OpenSpec.ofChange fnDirtyRootsAgainSpec)

/-- ITS FALSE NEIGHBOUR: 'it returns false'. Refute it at one input. -/
def fnDirtyRootsAgainWrong : ChangeSpec := { name := "fnDirtyRootsAgain", fn := fun _ => fun
  | [d] => { results := [.lit (.bool false)], args := [d] }
  | _ => none }
def FnDirtyRootsAgainWrongFalsely : Prop := fnDirtyRootsAgainRow.holds Try.pinned (OpenSpec.ofChange fnDirtyRootsAgainWrong)

/-- 'laws.FnDirtyBoxes': WHATEVER THE INPUT: true; the input reads as it did. -/
def fnDirtyBoxesSpec : ChangeSpec := { name := "fnDirtyBoxes", fn := fun _ => fun
  | [d] => { results := [.lit (.bool true)], args := [d] }
  | _ => none }
def fnDirtyBoxesRow : OpenClaim := { program := "yteofjfglmngmnaa", sum := "7488f5d8fec924e278c4bad6735107935ff9c5a0d81a19f314443236b789d2df", func := "loop.example/flexlayout/laws.FnDirtyBoxes", spec := "fnDirtyBoxes", recurses := true, apart := false }
def FnDirtyBoxesSaid : Prop := fnDirtyBoxesRow.holds Try.pinned (OpenSpec.ofChange fnDirtyBoxesSpec)

/-- ITS FALSE NEIGHBOUR: 'it returns false'. Refute it at one input. -/
def fnDirtyBoxesWrong : ChangeSpec := { name := "fnDirtyBoxes", fn := fun _ => fun
  | [d] => { results := [.lit (.bool false)], args := [d] }
  | _ => none }
def FnDirtyBoxesWrongFalsely : Prop := fnDirtyBoxesRow.holds Try.pinned (OpenSpec.ofChange fnDirtyBoxesWrong)

/-- 'laws.FnCleanBox': WHATEVER THE INPUT: true; the input reads as it did. -/
def fnCleanBoxSpec : ChangeSpec := { name := "fnCleanBox", fn := fun _ => fun
  | [d] => { results := [.lit (.bool true)], args := [d] }
  | _ => none }
def fnCleanBoxRow : OpenClaim := { program := "yteofjfglmngmnaa", sum := "7488f5d8fec924e278c4bad6735107935ff9c5a0d81a19f314443236b789d2df", func := "loop.example/flexlayout/laws.FnCleanBox", spec := "fnCleanBox", unfollowed := true, recurses := true, apart := false }
def FnCleanBoxSaid : Prop := fnCleanBoxRow.holds Try.pinned (OpenSpec.ofChange fnCleanBoxSpec)

/-- ITS FALSE NEIGHBOUR: 'it returns false'. Refute it at one input. -/
def fnCleanBoxWrong : ChangeSpec := { name := "fnCleanBox", fn := fun _ => fun
  | [d] => { results := [.lit (.bool false)], args := [d] }
  | _ => none }
def FnCleanBoxWrongFalsely : Prop := fnCleanBoxRow.holds Try.pinned (OpenSpec.ofChange fnCleanBoxWrong)

/-- 'laws.FnDirtyBoxesAll': WHATEVER THE INPUT: true; the input reads as it did. -/
def fnDirtyBoxesAllSpec : ChangeSpec := { name := "fnDirtyBoxesAll", fn := fun _ => fun
  | [d] => { results := [.lit (.bool true)], args := [d] }
  | _ => none }
def fnDirtyBoxesAllRow : OpenClaim := { program := "yteofjfglmngmnaa", sum := "7488f5d8fec924e278c4bad6735107935ff9c5a0d81a19f314443236b789d2df", func := "loop.example/flexlayout/laws.FnDirtyBoxesAll", spec := "fnDirtyBoxesAll", apart := false }
def FnDirtyBoxesAllSaid : Prop := fnDirtyBoxesAllRow.holds Try.pinned (OpenSpec.ofChange fnDirtyBoxesAllSpec)

/-- ITS FALSE NEIGHBOUR: 'it returns false'. Refute it at one input. -/
def fnDirtyBoxesAllWrong : ChangeSpec := { name := "fnDirtyBoxesAll", fn := fun _ => fun
  | [d] => { results := [.lit (.bool false)], args := [d] }
  | _ => none }
def FnDirtyBoxesAllWrongFalsely : Prop := fnDirtyBoxesAllRow.holds Try.pinned (OpenSpec.ofChange fnDirtyBoxesAllWrong)

/- THE SECOND FORM. 'bulk': how many values and letters a reading holds, each counted each time it is reached (what is shared counts as often as it is met; a slice's spare places count too). A statement '..UptoSaid' is the law's where the arguments, and the package variables that the reading takes, are together of bulk at most 1048576: NARROWER than '..Said'. Prove '..Said' where nothing that the law and all that it calls make is longer than what came in: it says more and counts as full. Else prove '..UptoSaid'. A law counts once. -/
mutual
def uptoBulk {H : Type} : DataW H → Nat
  | .lit (.string bytes) => bytes.length + 1
  | .lit _ => 1
  | .nil => 1
  | .ptr d => uptoBulk d + 1
  | .slice elems spare => uptoBulkAll elems + uptoBulkAll spare + 1
  | .agg parts => uptoBulkAll parts + 1
  | .iface _ d => uptoBulk d + 1
  | .map entries => uptoBulkEntries entries + 1
  | .held _ => 1
def uptoBulkAll {H : Type} : List (DataW H) → Nat
  | [] => 0
  | d :: r => uptoBulk d + uptoBulkAll r
def uptoBulkEntries {H : Type} : List (Lit × DataW H) → Nat
  | [] => 0
  | x :: r => uptoBulkEntry x + uptoBulkEntries r
def uptoBulkEntry {H : Type} : Lit × DataW H → Nat
  | (.string bytes, d) => bytes.length + uptoBulk d + 1
  | (_, d) => uptoBulk d + 1
 end
def uptoSmall : (H : Type) → List (DataW H) → Bool := fun _ ds => decide (uptoBulkAll ds ≤ 1048576)
def OpenSpec.upto (s : _root_.Go.ChangeSpec) : _root_.Go.OpenSpec := { _root_.Go.OpenSpec.ofChange s with cond := some uptoSmall }

/-- 'laws.FnFinishFramesMore', WHERE WHAT IT READS IS OF BULK AT MOST 1048576: true; the input reads as it did. -/
def fnFinishFramesMoreUptoRow : OpenClaim := { program := "yteofjfglmngmnaa", sum := "7488f5d8fec924e278c4bad6735107935ff9c5a0d81a19f314443236b789d2df", func := "loop.example/flexlayout/laws.FnFinishFramesMore", spec := "fnFinishFramesMore", apart := false, narrowed := true }
def FnFinishFramesMoreUptoSaid : Prop := fnFinishFramesMoreUptoRow.holds Try.pinned (OpenSpec.upto fnFinishFramesMoreSpec)

/-- 'laws.FnWorkLeftDone', WHERE WHAT IT READS IS OF BULK AT MOST 1048576: true; the input reads as it did. -/
def fnWorkLeftDoneUptoRow : OpenClaim := { program := "yteofjfglmngmnaa", sum := "7488f5d8fec924e278c4bad6735107935ff9c5a0d81a19f314443236b789d2df", func := "loop.example/flexlayout/laws.FnWorkLeftDone", spec := "fnWorkLeftDone", apart := false, narrowed := true }
def FnWorkLeftDoneUptoSaid : Prop := fnWorkLeftDoneUptoRow.holds Try.pinned (OpenSpec.upto fnWorkLeftDoneSpec)

/-- 'laws.FnIdleTimeLeft', WHERE WHAT IT READS IS OF BULK AT MOST 1048576: true; the input reads as it did. -/
def fnIdleTimeLeftUptoRow : OpenClaim := { program := "yteofjfglmngmnaa", sum := "7488f5d8fec924e278c4bad6735107935ff9c5a0d81a19f314443236b789d2df", func := "loop.example/flexlayout/laws.FnIdleTimeLeft", spec := "fnIdleTimeLeft", apart := false, narrowed := true }
def FnIdleTimeLeftUptoSaid : Prop := fnIdleTimeLeftUptoRow.holds Try.pinned (OpenSpec.upto fnIdleTimeLeftSpec)

/-- 'laws.FnExactDirtyRoots', WHERE WHAT IT READS IS OF BULK AT MOST 1048576: true; the input reads as it did. -/
def fnExactDirtyRootsUptoRow : OpenClaim := { program := "yteofjfglmngmnaa", sum := "7488f5d8fec924e278c4bad6735107935ff9c5a0d81a19f314443236b789d2df", func := "loop.example/flexlayout/laws.FnExactDirtyRoots", spec := "fnExactDirtyRoots", apart := false, narrowed := true }
def FnExactDirtyRootsUptoSaid : Prop := fnExactDirtyRootsUptoRow.holds Try.pinned (OpenSpec.upto fnExactDirtyRootsSpec)

/-- 'laws.FnExactDirtyBoxes', WHERE WHAT IT READS IS OF BULK AT MOST 1048576: true; the input reads as it did. -/
def fnExactDirtyBoxesUptoRow : OpenClaim := { program := "yteofjfglmngmnaa", sum := "7488f5d8fec924e278c4bad6735107935ff9c5a0d81a19f314443236b789d2df", func := "loop.example/flexlayout/laws.FnExactDirtyBoxes", spec := "fnExactDirtyBoxes", apart := false, narrowed := true }
def FnExactDirtyBoxesUptoSaid : Prop := fnExactDirtyBoxesUptoRow.holds Try.pinned (OpenSpec.upto fnExactDirtyBoxesSpec)

/-- 'laws.FnExactCleanBox', WHERE WHAT IT READS IS OF BULK AT MOST 1048576: true; the input reads as it did. -/
def fnExactCleanBoxUptoRow : OpenClaim := { program := "yteofjfglmngmnaa", sum := "7488f5d8fec924e278c4bad6735107935ff9c5a0d81a19f314443236b789d2df", func := "loop.example/flexlayout/laws.FnExactCleanBox", spec := "fnExactCleanBox", unfollowed := true, recurses := true, apart := false, narrowed := true }
def FnExactCleanBoxUptoSaid : Prop := fnExactCleanBoxUptoRow.holds Try.pinned (OpenSpec.upto fnExactCleanBoxSpec)

/-- 'laws.FnExactLayoutRoot', WHERE WHAT IT READS IS OF BULK AT MOST 1048576: true; the input reads as it did. -/
def fnExactLayoutRootUptoRow : OpenClaim := { program := "yteofjfglmngmnaa", sum := "7488f5d8fec924e278c4bad6735107935ff9c5a0d81a19f314443236b789d2df", func := "loop.example/flexlayout/laws.FnExactLayoutRoot", spec := "fnExactLayoutRoot", apart := false, narrowed := true }
def FnExactLayoutRootUptoSaid : Prop := fnExactLayoutRootUptoRow.holds Try.pinned (OpenSpec.upto fnExactLayoutRootSpec)

/-- 'laws.FnDirtyRoots', WHERE WHAT IT READS IS OF BULK AT MOST 1048576: true; the input reads as it did. -/
def fnDirtyRootsUptoRow : OpenClaim := { program := "yteofjfglmngmnaa", sum := "7488f5d8fec924e278c4bad6735107935ff9c5a0d81a19f314443236b789d2df", func := "loop.example/flexlayout/laws.FnDirtyRoots", spec := "fnDirtyRoots", apart := false, narrowed := true }
def FnDirtyRootsUptoSaid : Prop := fnDirtyRootsUptoRow.holds Try.pinned (OpenSpec.upto fnDirtyRootsSpec)

/-- 'laws.FnDirtyRootsAgain', WHERE WHAT IT READS IS OF BULK AT MOST 1048576: true; the input reads as it did. -/
def fnDirtyRootsAgainUptoRow : OpenClaim := { program := "yteofjfglmngmnaa", sum := "7488f5d8fec924e278c4bad6735107935ff9c5a0d81a19f314443236b789d2df", func := "loop.example/flexlayout/laws.FnDirtyRootsAgain", spec := "fnDirtyRootsAgain", apart := false, narrowed := true }
def FnDirtyRootsAgainUptoSaid : Prop := fnDirtyRootsAgainUptoRow.holds Try.pinned (OpenSpec.upto fnDirtyRootsAgainSpec)

/-- 'laws.FnDirtyBoxes', WHERE WHAT IT READS IS OF BULK AT MOST 1048576: true; the input reads as it did. -/
def fnDirtyBoxesUptoRow : OpenClaim := { program := "yteofjfglmngmnaa", sum := "7488f5d8fec924e278c4bad6735107935ff9c5a0d81a19f314443236b789d2df", func := "loop.example/flexlayout/laws.FnDirtyBoxes", spec := "fnDirtyBoxes", recurses := true, apart := false, narrowed := true }
def FnDirtyBoxesUptoSaid : Prop := fnDirtyBoxesUptoRow.holds Try.pinned (OpenSpec.upto fnDirtyBoxesSpec)

/-- 'laws.FnCleanBox', WHERE WHAT IT READS IS OF BULK AT MOST 1048576: true; the input reads as it did. -/
def fnCleanBoxUptoRow : OpenClaim := { program := "yteofjfglmngmnaa", sum := "7488f5d8fec924e278c4bad6735107935ff9c5a0d81a19f314443236b789d2df", func := "loop.example/flexlayout/laws.FnCleanBox", spec := "fnCleanBox", unfollowed := true, recurses := true, apart := false, narrowed := true }
def FnCleanBoxUptoSaid : Prop := fnCleanBoxUptoRow.holds Try.pinned (OpenSpec.upto fnCleanBoxSpec)

/-- 'laws.FnDirtyBoxesAll', WHERE WHAT IT READS IS OF BULK AT MOST 1048576: true; the input reads as it did. -/
def fnDirtyBoxesAllUptoRow : OpenClaim := { program := "yteofjfglmngmnaa", sum := "7488f5d8fec924e278c4bad6735107935ff9c5a0d81a19f314443236b789d2df", func := "loop.example/flexlayout/laws.FnDirtyBoxesAll", spec := "fnDirtyBoxesAll", apart := false, narrowed := true }
def FnDirtyBoxesAllUptoSaid : Prop := fnDirtyBoxesAllUptoRow.holds Try.pinned (OpenSpec.upto fnDirtyBoxesAllSpec)

end Rows
end Go.Proofs.Yteofjfglmngmnaa
