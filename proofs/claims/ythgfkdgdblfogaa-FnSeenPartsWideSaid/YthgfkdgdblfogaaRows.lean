/-
  No cell of these rows narrows 'for every input' (looked for: loops, veiled, ifaces, maps, wideKeys, modest, calm, conditions, laid).
  DERIVED. THE GIVEN ROWS OF THIS SEAT. 12 by the template 'for every input the law returns true; each argument reads behind the call as it read before'; 0 by the template 'total and deterministic' (their statements: YthgfkdgdblfogaaTotals.lean).
  GIVEN WITH THE SEED: the statements are not yours to turn. If you find one false, say at which input.
  Laid BY PROGRAM, IN A SANDBOX (cutbox-rows.mjs): the forced cells as the released guide's own fill.sh prints them over the translation 33de86724ec78140… (all of the seat's roots in one cut). By AI agents, Wed Nov 11 2026. No macro, syntax, notation, axiom, sorry.
-/
import Derived.Test.YthgfkdgdblfogaaChecked
import GoSem.Claim
import GoSem.ClaimJoined
import GoSem.ClaimMapViews
import Derived.JoinedTies
import Derived.KernelRfl
namespace Go.Proofs.Ythgfkdgdblfogaa
/- THE CELL 'sum', in the pinned program and in every row, IS THE sha256 OF THE DUMP (.gsa) THAT YthgfkdgdblfogaaProg.lean LOADS. Nothing in Lean hashes anything: it is a label: what it is worth is what the hold of that sum in a sandbox is worth. -/
noncomputable def Try.pinned : Pinned := { name := "ythgfkdgdblfogaa", sum := "33de86724ec78140df2c95d24723d269438888823d5bee078f87da7270605524", checked := Try.checked }
namespace Rows
def none {H : Type} : Left H := { results := [], args := [] }

/-- 'laws.FnExactSeenParts': WHATEVER THE INPUT: true; the input reads as it did. -/
def fnExactSeenPartsSpec : ChangeSpec := { name := "fnExactSeenParts", fn := fun _ => fun
  | [d1, d2, d3] => { results := [.lit (.bool true)], args := [d1, d2, d3] }
  | _ => none }
def fnExactSeenPartsRow : OpenClaim := { program := "ythgfkdgdblfogaa", sum := "33de86724ec78140df2c95d24723d269438888823d5bee078f87da7270605524", func := "loop.example/flexlayout/laws.FnExactSeenParts", spec := "fnExactSeenParts", apart := false }
def FnExactSeenPartsSaid : Prop := fnExactSeenPartsRow.holds Try.pinned (OpenSpec.ofChange fnExactSeenPartsSpec)

/-- ITS FALSE NEIGHBOUR: 'it returns false'. Refute it at one input. -/
def fnExactSeenPartsWrong : ChangeSpec := { name := "fnExactSeenParts", fn := fun _ => fun
  | [d1, d2, d3] => { results := [.lit (.bool false)], args := [d1, d2, d3] }
  | _ => none }
def FnExactSeenPartsWrongFalsely : Prop := fnExactSeenPartsRow.holds Try.pinned (OpenSpec.ofChange fnExactSeenPartsWrong)

/-- 'laws.FnSeenParts': WHATEVER THE INPUT: true; the input reads as it did. -/
def fnSeenPartsSpec : ChangeSpec := { name := "fnSeenParts", fn := fun _ => fun
  | [d] => { results := [.lit (.bool true)], args := [d] }
  | _ => none }
def fnSeenPartsRow : OpenClaim := { program := "ythgfkdgdblfogaa", sum := "33de86724ec78140df2c95d24723d269438888823d5bee078f87da7270605524", func := "loop.example/flexlayout/laws.FnSeenParts", spec := "fnSeenParts", apart := false }
def FnSeenPartsSaid : Prop := fnSeenPartsRow.holds Try.pinned (OpenSpec.ofChange fnSeenPartsSpec)

/-- ITS FALSE NEIGHBOUR: 'it returns false'. Refute it at one input. -/
def fnSeenPartsWrong : ChangeSpec := { name := "fnSeenParts", fn := fun _ => fun
  | [d] => { results := [.lit (.bool false)], args := [d] }
  | _ => none }
def FnSeenPartsWrongFalsely : Prop := fnSeenPartsRow.holds Try.pinned (OpenSpec.ofChange fnSeenPartsWrong)

/-- 'laws.FnSeenPartsWide': WHATEVER THE INPUT: true; the input reads as it did. -/
def fnSeenPartsWideSpec : ChangeSpec := { name := "fnSeenPartsWide", fn := fun _ => fun
  | [d] => { results := [.lit (.bool true)], args := [d] }
  | _ => none }
def fnSeenPartsWideRow : OpenClaim := { program := "ythgfkdgdblfogaa", sum := "33de86724ec78140df2c95d24723d269438888823d5bee078f87da7270605524", func := "loop.example/flexlayout/laws.FnSeenPartsWide", spec := "fnSeenPartsWide", apart := false }
def FnSeenPartsWideSaid : Prop := fnSeenPartsWideRow.holds Try.pinned (OpenSpec.ofChange fnSeenPartsWideSpec)

/-- ITS FALSE NEIGHBOUR: 'it returns false'. Refute it at one input. -/
def fnSeenPartsWideWrong : ChangeSpec := { name := "fnSeenPartsWide", fn := fun _ => fun
  | [d] => { results := [.lit (.bool false)], args := [d] }
  | _ => none }
def FnSeenPartsWideWrongFalsely : Prop := fnSeenPartsWideRow.holds Try.pinned (OpenSpec.ofChange fnSeenPartsWideWrong)

/-- 'laws.FnSeenPartsAll': WHATEVER THE INPUT: true; the input reads as it did. -/
def fnSeenPartsAllSpec : ChangeSpec := { name := "fnSeenPartsAll", fn := fun _ => fun
  | [d] => { results := [.lit (.bool true)], args := [d] }
  | _ => none }
def fnSeenPartsAllRow : OpenClaim := { program := "ythgfkdgdblfogaa", sum := "33de86724ec78140df2c95d24723d269438888823d5bee078f87da7270605524", func := "loop.example/flexlayout/laws.FnSeenPartsAll", spec := "fnSeenPartsAll", apart := false }
def FnSeenPartsAllSaid : Prop := fnSeenPartsAllRow.holds Try.pinned (OpenSpec.ofChange fnSeenPartsAllSpec)

/-- ITS FALSE NEIGHBOUR: 'it returns false'. Refute it at one input. -/
def fnSeenPartsAllWrong : ChangeSpec := { name := "fnSeenPartsAll", fn := fun _ => fun
  | [d] => { results := [.lit (.bool false)], args := [d] }
  | _ => none }
def FnSeenPartsAllWrongFalsely : Prop := fnSeenPartsAllRow.holds Try.pinned (OpenSpec.ofChange fnSeenPartsAllWrong)

/-- 'laws.FnFlexSizes': WHATEVER THE INPUT: true; the input reads as it did. -/
def fnFlexSizesSpec : ChangeSpec := { name := "fnFlexSizes", fn := fun _ => fun
  | [d] => { results := [.lit (.bool true)], args := [d] }
  | _ => none }
def fnFlexSizesRow : OpenClaim := { program := "ythgfkdgdblfogaa", sum := "33de86724ec78140df2c95d24723d269438888823d5bee078f87da7270605524", func := "loop.example/flexlayout/laws.FnFlexSizes", spec := "fnFlexSizes", unfollowed := true, recurses := true, apart := false }
def FnFlexSizesSaid : Prop := fnFlexSizesRow.holds Try.pinned (OpenSpec.ofChange fnFlexSizesSpec)

/-- ITS FALSE NEIGHBOUR: 'it returns false'. Refute it at one input. -/
def fnFlexSizesWrong : ChangeSpec := { name := "fnFlexSizes", fn := fun _ => fun
  | [d] => { results := [.lit (.bool false)], args := [d] }
  | _ => none }
def FnFlexSizesWrongFalsely : Prop := fnFlexSizesRow.holds Try.pinned (OpenSpec.ofChange fnFlexSizesWrong)

/-- 'laws.FnFlexSizesFill': WHATEVER THE INPUT: true; the input reads as it did. -/
def fnFlexSizesFillSpec : ChangeSpec := { name := "fnFlexSizesFill", fn := fun _ => fun
  | [d] => { results := [.lit (.bool true)], args := [d] }
  | _ => none }
def fnFlexSizesFillRow : OpenClaim := { program := "ythgfkdgdblfogaa", sum := "33de86724ec78140df2c95d24723d269438888823d5bee078f87da7270605524", func := "loop.example/flexlayout/laws.FnFlexSizesFill", spec := "fnFlexSizesFill", unfollowed := true, recurses := true, apart := false }
def FnFlexSizesFillSaid : Prop := fnFlexSizesFillRow.holds Try.pinned (OpenSpec.ofChange fnFlexSizesFillSpec)

/-- ITS FALSE NEIGHBOUR: 'it returns false'. Refute it at one input. -/
def fnFlexSizesFillWrong : ChangeSpec := { name := "fnFlexSizesFill", fn := fun _ => fun
  | [d] => { results := [.lit (.bool false)], args := [d] }
  | _ => none }
def FnFlexSizesFillWrongFalsely : Prop := fnFlexSizesFillRow.holds Try.pinned (OpenSpec.ofChange fnFlexSizesFillWrong)

/-- 'laws.FnFlexSizesBase': WHATEVER THE INPUT: true; the input reads as it did. -/
def fnFlexSizesBaseSpec : ChangeSpec := { name := "fnFlexSizesBase", fn := fun _ => fun
  | [d] => { results := [.lit (.bool true)], args := [d] }
  | _ => none }
def fnFlexSizesBaseRow : OpenClaim := { program := "ythgfkdgdblfogaa", sum := "33de86724ec78140df2c95d24723d269438888823d5bee078f87da7270605524", func := "loop.example/flexlayout/laws.FnFlexSizesBase", spec := "fnFlexSizesBase", unfollowed := true, recurses := true, apart := false }
def FnFlexSizesBaseSaid : Prop := fnFlexSizesBaseRow.holds Try.pinned (OpenSpec.ofChange fnFlexSizesBaseSpec)

/-- ITS FALSE NEIGHBOUR: 'it returns false'. Refute it at one input. -/
def fnFlexSizesBaseWrong : ChangeSpec := { name := "fnFlexSizesBase", fn := fun _ => fun
  | [d] => { results := [.lit (.bool false)], args := [d] }
  | _ => none }
def FnFlexSizesBaseWrongFalsely : Prop := fnFlexSizesBaseRow.holds Try.pinned (OpenSpec.ofChange fnFlexSizesBaseWrong)

/-- 'laws.FnLeftOver': WHATEVER THE INPUT: true; the input reads as it did. -/
def fnLeftOverSpec : ChangeSpec := { name := "fnLeftOver", fn := fun _ => fun
  | [d] => { results := [.lit (.bool true)], args := [d] }
  | _ => none }
def fnLeftOverRow : OpenClaim := { program := "ythgfkdgdblfogaa", sum := "33de86724ec78140df2c95d24723d269438888823d5bee078f87da7270605524", func := "loop.example/flexlayout/laws.FnLeftOver", spec := "fnLeftOver", unfollowed := true, recurses := true, apart := false }
def FnLeftOverSaid : Prop := fnLeftOverRow.holds Try.pinned (OpenSpec.ofChange fnLeftOverSpec)

/-- ITS FALSE NEIGHBOUR: 'it returns false'. Refute it at one input. -/
def fnLeftOverWrong : ChangeSpec := { name := "fnLeftOver", fn := fun _ => fun
  | [d] => { results := [.lit (.bool false)], args := [d] }
  | _ => none }
def FnLeftOverWrongFalsely : Prop := fnLeftOverRow.holds Try.pinned (OpenSpec.ofChange fnLeftOverWrong)

/-- 'laws.FnLeftOverGrow': WHATEVER THE INPUT: true; the input reads as it did. -/
def fnLeftOverGrowSpec : ChangeSpec := { name := "fnLeftOverGrow", fn := fun _ => fun
  | [d] => { results := [.lit (.bool true)], args := [d] }
  | _ => none }
def fnLeftOverGrowRow : OpenClaim := { program := "ythgfkdgdblfogaa", sum := "33de86724ec78140df2c95d24723d269438888823d5bee078f87da7270605524", func := "loop.example/flexlayout/laws.FnLeftOverGrow", spec := "fnLeftOverGrow", unfollowed := true, recurses := true, apart := false }
def FnLeftOverGrowSaid : Prop := fnLeftOverGrowRow.holds Try.pinned (OpenSpec.ofChange fnLeftOverGrowSpec)

/-- ITS FALSE NEIGHBOUR: 'it returns false'. Refute it at one input. -/
def fnLeftOverGrowWrong : ChangeSpec := { name := "fnLeftOverGrow", fn := fun _ => fun
  | [d] => { results := [.lit (.bool false)], args := [d] }
  | _ => none }
def FnLeftOverGrowWrongFalsely : Prop := fnLeftOverGrowRow.holds Try.pinned (OpenSpec.ofChange fnLeftOverGrowWrong)

/-- 'laws.FnFlexSizesMore': WHATEVER THE INPUT: true; the input reads as it did. -/
def fnFlexSizesMoreSpec : ChangeSpec := { name := "fnFlexSizesMore", fn := fun _ => fun
  | [d] => { results := [.lit (.bool true)], args := [d] }
  | _ => none }
def fnFlexSizesMoreRow : OpenClaim := { program := "ythgfkdgdblfogaa", sum := "33de86724ec78140df2c95d24723d269438888823d5bee078f87da7270605524", func := "loop.example/flexlayout/laws.FnFlexSizesMore", spec := "fnFlexSizesMore", unfollowed := true, recurses := true, apart := false }
def FnFlexSizesMoreSaid : Prop := fnFlexSizesMoreRow.holds Try.pinned (OpenSpec.ofChange fnFlexSizesMoreSpec)

/-- ITS FALSE NEIGHBOUR: 'it returns false'. Refute it at one input. -/
def fnFlexSizesMoreWrong : ChangeSpec := { name := "fnFlexSizesMore", fn := fun _ => fun
  | [d] => { results := [.lit (.bool false)], args := [d] }
  | _ => none }
def FnFlexSizesMoreWrongFalsely : Prop := fnFlexSizesMoreRow.holds Try.pinned (OpenSpec.ofChange fnFlexSizesMoreWrong)

/-- 'laws.FnFlexSizesStiff': WHATEVER THE INPUT: true; the input reads as it did. -/
def fnFlexSizesStiffSpec : ChangeSpec := { name := "fnFlexSizesStiff", fn := fun _ => fun
  | [d] => { results := [.lit (.bool true)], args := [d] }
  | _ => none }
def fnFlexSizesStiffRow : OpenClaim := { program := "ythgfkdgdblfogaa", sum := "33de86724ec78140df2c95d24723d269438888823d5bee078f87da7270605524", func := "loop.example/flexlayout/laws.FnFlexSizesStiff", spec := "fnFlexSizesStiff", unfollowed := true, recurses := true, apart := false }
def FnFlexSizesStiffSaid : Prop := fnFlexSizesStiffRow.holds Try.pinned (OpenSpec.ofChange fnFlexSizesStiffSpec)

/-- ITS FALSE NEIGHBOUR: 'it returns false'. Refute it at one input. -/
def fnFlexSizesStiffWrong : ChangeSpec := { name := "fnFlexSizesStiff", fn := fun _ => fun
  | [d] => { results := [.lit (.bool false)], args := [d] }
  | _ => none }
def FnFlexSizesStiffWrongFalsely : Prop := fnFlexSizesStiffRow.holds Try.pinned (OpenSpec.ofChange fnFlexSizesStiffWrong)

/-- 'laws.FnFlexSizesOne': WHATEVER THE INPUT: true; the input reads as it did. -/
def fnFlexSizesOneSpec : ChangeSpec := { name := "fnFlexSizesOne", fn := fun _ => fun
  | [d] => { results := [.lit (.bool true)], args := [d] }
  | _ => none }
def fnFlexSizesOneRow : OpenClaim := { program := "ythgfkdgdblfogaa", sum := "33de86724ec78140df2c95d24723d269438888823d5bee078f87da7270605524", func := "loop.example/flexlayout/laws.FnFlexSizesOne", spec := "fnFlexSizesOne", unfollowed := true, recurses := true, apart := false }
def FnFlexSizesOneSaid : Prop := fnFlexSizesOneRow.holds Try.pinned (OpenSpec.ofChange fnFlexSizesOneSpec)

/-- ITS FALSE NEIGHBOUR: 'it returns false'. Refute it at one input. -/
def fnFlexSizesOneWrong : ChangeSpec := { name := "fnFlexSizesOne", fn := fun _ => fun
  | [d] => { results := [.lit (.bool false)], args := [d] }
  | _ => none }
def FnFlexSizesOneWrongFalsely : Prop := fnFlexSizesOneRow.holds Try.pinned (OpenSpec.ofChange fnFlexSizesOneWrong)

/- THE SECOND FORM. 'bulk': how many values and letters a reading holds, each counted each time it is reached (what is shared counts as often as it is met; a slice's spare places count too). A statement '..UptoSaid' is the law's where the arguments, and the package variables that the reading takes, are together of bulk at most 1048576: NARROWER than '..Said'. Prove '..Said' where nothing that the law and all that it calls make is longer than what came in: it says more and counts as full. Else prove '..UptoSaid'. A law counts once. -/
mutual
def uptoBulk {H : Type} : DataW H → Nat
  | .lit (.string bytes) => bytes.length + 1
  | .lit _ => 1
  | .nil => 1
  | .ptr d => uptoBulk d + 1
  | .slice elems spare => uptoBulkAll elems + uptoBulkAll spare + 1
  | .agg parts => uptoBulkAll parts + 1
  | .iface _ d => uptoBulk d + 1
  | .map entries => uptoBulkEntries entries + 1
  | .held _ => 1
def uptoBulkAll {H : Type} : List (DataW H) → Nat
  | [] => 0
  | d :: r => uptoBulk d + uptoBulkAll r
def uptoBulkEntries {H : Type} : List (Lit × DataW H) → Nat
  | [] => 0
  | x :: r => uptoBulkEntry x + uptoBulkEntries r
def uptoBulkEntry {H : Type} : Lit × DataW H → Nat
  | (.string bytes, d) => bytes.length + uptoBulk d + 1
  | (_, d) => uptoBulk d + 1
 end
def uptoSmall : (H : Type) → List (DataW H) → Bool := fun _ ds => decide (uptoBulkAll ds ≤ 1048576)
def OpenSpec.upto (s : _root_.Go.ChangeSpec) : _root_.Go.OpenSpec := { _root_.Go.OpenSpec.ofChange s with cond := some uptoSmall }

/-- 'laws.FnExactSeenParts', WHERE WHAT IT READS IS OF BULK AT MOST 1048576: true; the input reads as it did. -/
def fnExactSeenPartsUptoRow : OpenClaim := { program := "ythgfkdgdblfogaa", sum := "33de86724ec78140df2c95d24723d269438888823d5bee078f87da7270605524", func := "loop.example/flexlayout/laws.FnExactSeenParts", spec := "fnExactSeenParts", apart := false, narrowed := true }
def FnExactSeenPartsUptoSaid : Prop := fnExactSeenPartsUptoRow.holds Try.pinned (OpenSpec.upto fnExactSeenPartsSpec)

/-- 'laws.FnSeenParts', WHERE WHAT IT READS IS OF BULK AT MOST 1048576: true; the input reads as it did. -/
def fnSeenPartsUptoRow : OpenClaim := { program := "ythgfkdgdblfogaa", sum := "33de86724ec78140df2c95d24723d269438888823d5bee078f87da7270605524", func := "loop.example/flexlayout/laws.FnSeenParts", spec := "fnSeenParts", apart := false, narrowed := true }
def FnSeenPartsUptoSaid : Prop := fnSeenPartsUptoRow.holds Try.pinned (OpenSpec.upto fnSeenPartsSpec)

/-- 'laws.FnSeenPartsWide', WHERE WHAT IT READS IS OF BULK AT MOST 1048576: true; the input reads as it did. -/
def fnSeenPartsWideUptoRow : OpenClaim := { program := "ythgfkdgdblfogaa", sum := "33de86724ec78140df2c95d24723d269438888823d5bee078f87da7270605524", func := "loop.example/flexlayout/laws.FnSeenPartsWide", spec := "fnSeenPartsWide", apart := false, narrowed := true }
def FnSeenPartsWideUptoSaid : Prop := fnSeenPartsWideUptoRow.holds Try.pinned (OpenSpec.upto fnSeenPartsWideSpec)

/-- 'laws.FnSeenPartsAll', WHERE WHAT IT READS IS OF BULK AT MOST 1048576: true; the input reads as it did. -/
def fnSeenPartsAllUptoRow : OpenClaim := { program := "ythgfkdgdblfogaa", sum := "33de86724ec78140df2c95d24723d269438888823d5bee078f87da7270605524", func := "loop.example/flexlayout/laws.FnSeenPartsAll", spec := "fnSeenPartsAll", apart := false, narrowed := true }
def FnSeenPartsAllUptoSaid : Prop := fnSeenPartsAllUptoRow.holds Try.pinned (OpenSpec.upto fnSeenPartsAllSpec)

/-- 'laws.FnFlexSizes', WHERE WHAT IT READS IS OF BULK AT MOST 1048576: true; the input reads as it did. -/
def fnFlexSizesUptoRow : OpenClaim := { program := "ythgfkdgdblfogaa", sum := "33de86724ec78140df2c95d24723d269438888823d5bee078f87da7270605524", func := "loop.example/flexlayout/laws.FnFlexSizes", spec := "fnFlexSizes", unfollowed := true, recurses := true, apart := false, narrowed := true }
def FnFlexSizesUptoSaid : Prop := fnFlexSizesUptoRow.holds Try.pinned (OpenSpec.upto fnFlexSizesSpec)

/-- 'laws.FnFlexSizesFill', WHERE WHAT IT READS IS OF BULK AT MOST 1048576: true; the input reads as it did. -/
def fnFlexSizesFillUptoRow : OpenClaim := { program := "ythgfkdgdblfogaa", sum := "33de86724ec78140df2c95d24723d269438888823d5bee078f87da7270605524", func := "loop.example/flexlayout/laws.FnFlexSizesFill", spec := "fnFlexSizesFill", unfollowed := true, recurses := true, apart := false, narrowed := true }
def FnFlexSizesFillUptoSaid : Prop := fnFlexSizesFillUptoRow.holds Try.pinned (OpenSpec.upto fnFlexSizesFillSpec)

/-- 'laws.FnFlexSizesBase', WHERE WHAT IT READS IS OF BULK AT MOST 1048576: true; the input reads as it did. -/
def fnFlexSizesBaseUptoRow : OpenClaim := { program := "ythgfkdgdblfogaa", sum := "33de86724ec78140df2c95d24723d269438888823d5bee078f87da7270605524", func := "loop.example/flexlayout/laws.FnFlexSizesBase", spec := "fnFlexSizesBase", unfollowed := true, recurses := true, apart := false, narrowed := true }
def FnFlexSizesBaseUptoSaid : Prop := fnFlexSizesBaseUptoRow.holds Try.pinned (OpenSpec.upto fnFlexSizesBaseSpec)

/-- 'laws.FnLeftOver', WHERE WHAT IT READS IS OF BULK AT MOST 1048576: true; the input reads as it did. -/
def fnLeftOverUptoRow : OpenClaim := { program := "ythgfkdgdblfogaa", sum := "33de86724ec78140df2c95d24723d269438888823d5bee078f87da7270605524", func := "loop.example/flexlayout/laws.FnLeftOver", spec := "fnLeftOver", unfollowed := true, recurses := true, apart := false, narrowed := true }
def FnLeftOverUptoSaid : Prop := fnLeftOverUptoRow.holds Try.pinned (OpenSpec.upto fnLeftOverSpec)

/-- 'laws.FnLeftOverGrow', WHERE WHAT IT READS IS OF BULK AT MOST 1048576: true; the input reads as it did. -/
def fnLeftOverGrowUptoRow : OpenClaim := { program := "ythgfkdgdblfogaa", sum := "33de86724ec78140df2c95d24723d269438888823d5bee078f87da7270605524", func := "loop.example/flexlayout/laws.FnLeftOverGrow", spec := "fnLeftOverGrow", unfollowed := true, recurses := true, apart := false, narrowed := true }
def FnLeftOverGrowUptoSaid : Prop := fnLeftOverGrowUptoRow.holds Try.pinned (OpenSpec.upto fnLeftOverGrowSpec)

/-- 'laws.FnFlexSizesMore', WHERE WHAT IT READS IS OF BULK AT MOST 1048576: true; the input reads as it did. -/
def fnFlexSizesMoreUptoRow : OpenClaim := { program := "ythgfkdgdblfogaa", sum := "33de86724ec78140df2c95d24723d269438888823d5bee078f87da7270605524", func := "loop.example/flexlayout/laws.FnFlexSizesMore", spec := "fnFlexSizesMore", unfollowed := true, recurses := true, apart := false, narrowed := true }
def FnFlexSizesMoreUptoSaid : Prop := fnFlexSizesMoreUptoRow.holds Try.pinned (OpenSpec.upto fnFlexSizesMoreSpec)

/-- 'laws.FnFlexSizesStiff', WHERE WHAT IT READS IS OF BULK AT MOST 1048576: true; the input reads as it did. -/
def fnFlexSizesStiffUptoRow : OpenClaim := { program := "ythgfkdgdblfogaa", sum := "33de86724ec78140df2c95d24723d269438888823d5bee078f87da7270605524", func := "loop.example/flexlayout/laws.FnFlexSizesStiff", spec := "fnFlexSizesStiff", unfollowed := true, recurses := true, apart := false, narrowed := true }
def FnFlexSizesStiffUptoSaid : Prop := fnFlexSizesStiffUptoRow.holds Try.pinned (OpenSpec.upto fnFlexSizesStiffSpec)

/-- 'laws.FnFlexSizesOne', WHERE WHAT IT READS IS OF BULK AT MOST 1048576: true; the input reads as it did. -/
def fnFlexSizesOneUptoRow : OpenClaim := { program := "ythgfkdgdblfogaa", sum := "33de86724ec78140df2c95d24723d269438888823d5bee078f87da7270605524", func := "loop.example/flexlayout/laws.FnFlexSizesOne", spec := "fnFlexSizesOne", unfollowed := true, recurses := true, apart := false, narrowed := true }
def FnFlexSizesOneUptoSaid : Prop := fnFlexSizesOneUptoRow.holds Try.pinned (OpenSpec.upto fnFlexSizesOneSpec)

end Rows
end Go.Proofs.Ythgfkdgdblfogaa
