/-
  No cell of these rows narrows 'for every input' (looked for: loops, veiled, ifaces, maps, wideKeys, modest, calm, conditions, laid).
  DERIVED. THE GIVEN ROWS OF THIS SEAT. 15 by the template 'for every input the law returns true; each argument reads behind the call as it read before'; 0 by the template 'total and deterministic' (their statements: YtninajgnmogmeaaTotals.lean).
  GIVEN WITH THE SEED: the statements are not yours to turn. If you find one false, say at which input.
  Laid BY PROGRAM, IN A SANDBOX (cutbox-rows.mjs): the forced cells as the released guide's own fill.sh prints them over the translation 92aa9772ba329084… (all of the seat's roots in one cut). By AI agents, Wed Nov 11 2026. No macro, syntax, notation, axiom, sorry.
-/
import Derived.Test.YtninajgnmogmeaaChecked
import GoSem.Claim
import GoSem.ClaimJoined
import GoSem.ClaimMapViews
import Derived.JoinedTies
import Derived.KernelRfl
namespace Go.Proofs.Ytninajgnmogmeaa
/- THE CELL 'sum', in the pinned program and in every row, IS THE sha256 OF THE DUMP (.gsa) THAT YtninajgnmogmeaaProg.lean LOADS. Nothing in Lean hashes anything: it is a label: what it is worth is what the hold of that sum in a sandbox is worth. -/
noncomputable def Try.pinned : Pinned := { name := "ytninajgnmogmeaa", sum := "92aa9772ba329084c227c87f739d19541abb154854c7617d8651bd967e362b2a", checked := Try.checked }
namespace Rows
def none {H : Type} : Left H := { results := [], args := [] }

/-- 'laws.FnExactGcd': WHATEVER THE INPUT: true; the input reads as it did. -/
def fnExactGcdSpec : ChangeSpec := { name := "fnExactGcd", fn := fun _ => fun
  | [d1, d2] => { results := [.lit (.bool true)], args := [d1, d2] }
  | _ => none }
def fnExactGcdRow : OpenClaim := { program := "ytninajgnmogmeaa", sum := "92aa9772ba329084c227c87f739d19541abb154854c7617d8651bd967e362b2a", func := "loop.example/g00920/laws.FnExactGcd", spec := "fnExactGcd", recurses := true, apart := false }
def FnExactGcdSaid : Prop := fnExactGcdRow.holds Try.pinned (OpenSpec.ofChange fnExactGcdSpec)

/-- ITS FALSE NEIGHBOUR: 'it returns false'. Refute it at one input. -/
def fnExactGcdWrong : ChangeSpec := { name := "fnExactGcd", fn := fun _ => fun
  | [d1, d2] => { results := [.lit (.bool false)], args := [d1, d2] }
  | _ => none }
def FnExactGcdWrongFalsely : Prop := fnExactGcdRow.holds Try.pinned (OpenSpec.ofChange fnExactGcdWrong)

/-- 'laws.FnExactPowerMod': WHATEVER THE INPUT: true; the input reads as it did. -/
def fnExactPowerModSpec : ChangeSpec := { name := "fnExactPowerMod", fn := fun _ => fun
  | [d1, d2, d3] => { results := [.lit (.bool true)], args := [d1, d2, d3] }
  | _ => none }
def fnExactPowerModRow : OpenClaim := { program := "ytninajgnmogmeaa", sum := "92aa9772ba329084c227c87f739d19541abb154854c7617d8651bd967e362b2a", func := "loop.example/g00920/laws.FnExactPowerMod", spec := "fnExactPowerMod", unfollowed := true, recurses := true, apart := false }
def FnExactPowerModSaid : Prop := fnExactPowerModRow.holds Try.pinned (OpenSpec.ofChange fnExactPowerModSpec)

/-- ITS FALSE NEIGHBOUR: 'it returns false'. Refute it at one input. -/
def fnExactPowerModWrong : ChangeSpec := { name := "fnExactPowerMod", fn := fun _ => fun
  | [d1, d2, d3] => { results := [.lit (.bool false)], args := [d1, d2, d3] }
  | _ => none }
def FnExactPowerModWrongFalsely : Prop := fnExactPowerModRow.holds Try.pinned (OpenSpec.ofChange fnExactPowerModWrong)

/-- 'laws.FnExactInverseMod': WHATEVER THE INPUT: true; the input reads as it did. -/
def fnExactInverseModSpec : ChangeSpec := { name := "fnExactInverseMod", fn := fun _ => fun
  | [d1, d2] => { results := [.lit (.bool true)], args := [d1, d2] }
  | _ => none }
def fnExactInverseModRow : OpenClaim := { program := "ytninajgnmogmeaa", sum := "92aa9772ba329084c227c87f739d19541abb154854c7617d8651bd967e362b2a", func := "loop.example/g00920/laws.FnExactInverseMod", spec := "fnExactInverseMod", recurses := true, apart := false }
def FnExactInverseModSaid : Prop := fnExactInverseModRow.holds Try.pinned (OpenSpec.ofChange fnExactInverseModSpec)

/-- ITS FALSE NEIGHBOUR: 'it returns false'. Refute it at one input. -/
def fnExactInverseModWrong : ChangeSpec := { name := "fnExactInverseMod", fn := fun _ => fun
  | [d1, d2] => { results := [.lit (.bool false)], args := [d1, d2] }
  | _ => none }
def FnExactInverseModWrongFalsely : Prop := fnExactInverseModRow.holds Try.pinned (OpenSpec.ofChange fnExactInverseModWrong)

/-- 'laws.FnExactIsPrime': WHATEVER THE INPUT: true; the input reads as it did. -/
def fnExactIsPrimeSpec : ChangeSpec := { name := "fnExactIsPrime", fn := fun _ => fun
  | [d] => { results := [.lit (.bool true)], args := [d] }
  | _ => none }
def fnExactIsPrimeRow : OpenClaim := { program := "ytninajgnmogmeaa", sum := "92aa9772ba329084c227c87f739d19541abb154854c7617d8651bd967e362b2a", func := "loop.example/g00920/laws.FnExactIsPrime", spec := "fnExactIsPrime", unfollowed := true, recurses := true, apart := false }
def FnExactIsPrimeSaid : Prop := fnExactIsPrimeRow.holds Try.pinned (OpenSpec.ofChange fnExactIsPrimeSpec)

/-- ITS FALSE NEIGHBOUR: 'it returns false'. Refute it at one input. -/
def fnExactIsPrimeWrong : ChangeSpec := { name := "fnExactIsPrime", fn := fun _ => fun
  | [d] => { results := [.lit (.bool false)], args := [d] }
  | _ => none }
def FnExactIsPrimeWrongFalsely : Prop := fnExactIsPrimeRow.holds Try.pinned (OpenSpec.ofChange fnExactIsPrimeWrong)

/-- 'laws.FnExactFactorsOf': WHATEVER THE INPUT: true; the input reads as it did. -/
def fnExactFactorsOfSpec : ChangeSpec := { name := "fnExactFactorsOf", fn := fun _ => fun
  | [d] => { results := [.lit (.bool true)], args := [d] }
  | _ => none }
def fnExactFactorsOfRow : OpenClaim := { program := "ytninajgnmogmeaa", sum := "92aa9772ba329084c227c87f739d19541abb154854c7617d8651bd967e362b2a", func := "loop.example/g00920/laws.FnExactFactorsOf", spec := "fnExactFactorsOf", unfollowed := true, recurses := true, apart := false }
def FnExactFactorsOfSaid : Prop := fnExactFactorsOfRow.holds Try.pinned (OpenSpec.ofChange fnExactFactorsOfSpec)

/-- ITS FALSE NEIGHBOUR: 'it returns false'. Refute it at one input. -/
def fnExactFactorsOfWrong : ChangeSpec := { name := "fnExactFactorsOf", fn := fun _ => fun
  | [d] => { results := [.lit (.bool false)], args := [d] }
  | _ => none }
def FnExactFactorsOfWrongFalsely : Prop := fnExactFactorsOfRow.holds Try.pinned (OpenSpec.ofChange fnExactFactorsOfWrong)

/-- 'laws.FnExactPrimePower': WHATEVER THE INPUT: true; the input reads as it did. -/
def fnExactPrimePowerSpec : ChangeSpec := { name := "fnExactPrimePower", fn := fun _ => fun
  | [d] => { results := [.lit (.bool true)], args := [d] }
  | _ => none }
def fnExactPrimePowerRow : OpenClaim := { program := "ytninajgnmogmeaa", sum := "92aa9772ba329084c227c87f739d19541abb154854c7617d8651bd967e362b2a", func := "loop.example/g00920/laws.FnExactPrimePower", spec := "fnExactPrimePower", unfollowed := true, recurses := true, apart := false }
def FnExactPrimePowerSaid : Prop := fnExactPrimePowerRow.holds Try.pinned (OpenSpec.ofChange fnExactPrimePowerSpec)

/-- ITS FALSE NEIGHBOUR: 'it returns false'. Refute it at one input. -/
def fnExactPrimePowerWrong : ChangeSpec := { name := "fnExactPrimePower", fn := fun _ => fun
  | [d] => { results := [.lit (.bool false)], args := [d] }
  | _ => none }
def FnExactPrimePowerWrongFalsely : Prop := fnExactPrimePowerRow.holds Try.pinned (OpenSpec.ofChange fnExactPrimePowerWrong)

/-- 'laws.FnExactOrderMod': WHATEVER THE INPUT: true; the input reads as it did. -/
def fnExactOrderModSpec : ChangeSpec := { name := "fnExactOrderMod", fn := fun _ => fun
  | [d1, d2] => { results := [.lit (.bool true)], args := [d1, d2] }
  | _ => none }
def fnExactOrderModRow : OpenClaim := { program := "ytninajgnmogmeaa", sum := "92aa9772ba329084c227c87f739d19541abb154854c7617d8651bd967e362b2a", func := "loop.example/g00920/laws.FnExactOrderMod", spec := "fnExactOrderMod", recurses := true, apart := false }
def FnExactOrderModSaid : Prop := fnExactOrderModRow.holds Try.pinned (OpenSpec.ofChange fnExactOrderModSpec)

/-- ITS FALSE NEIGHBOUR: 'it returns false'. Refute it at one input. -/
def fnExactOrderModWrong : ChangeSpec := { name := "fnExactOrderMod", fn := fun _ => fun
  | [d1, d2] => { results := [.lit (.bool false)], args := [d1, d2] }
  | _ => none }
def FnExactOrderModWrongFalsely : Prop := fnExactOrderModRow.holds Try.pinned (OpenSpec.ofChange fnExactOrderModWrong)

/-- 'laws.FnExactPrimitiveRoot': WHATEVER THE INPUT: true; the input reads as it did. -/
def fnExactPrimitiveRootSpec : ChangeSpec := { name := "fnExactPrimitiveRoot", fn := fun _ => fun
  | [d] => { results := [.lit (.bool true)], args := [d] }
  | _ => none }
def fnExactPrimitiveRootRow : OpenClaim := { program := "ytninajgnmogmeaa", sum := "92aa9772ba329084c227c87f739d19541abb154854c7617d8651bd967e362b2a", func := "loop.example/g00920/laws.FnExactPrimitiveRoot", spec := "fnExactPrimitiveRoot", unfollowed := true, recurses := true, apart := false }
def FnExactPrimitiveRootSaid : Prop := fnExactPrimitiveRootRow.holds Try.pinned (OpenSpec.ofChange fnExactPrimitiveRootSpec)

/-- ITS FALSE NEIGHBOUR: 'it returns false'. Refute it at one input. -/
def fnExactPrimitiveRootWrong : ChangeSpec := { name := "fnExactPrimitiveRoot", fn := fun _ => fun
  | [d] => { results := [.lit (.bool false)], args := [d] }
  | _ => none }
def FnExactPrimitiveRootWrongFalsely : Prop := fnExactPrimitiveRootRow.holds Try.pinned (OpenSpec.ofChange fnExactPrimitiveRootWrong)

/-- 'laws.FnExactIsSquareMod': WHATEVER THE INPUT: true; the input reads as it did. -/
def fnExactIsSquareModSpec : ChangeSpec := { name := "fnExactIsSquareMod", fn := fun _ => fun
  | [d1, d2] => { results := [.lit (.bool true)], args := [d1, d2] }
  | _ => none }
def fnExactIsSquareModRow : OpenClaim := { program := "ytninajgnmogmeaa", sum := "92aa9772ba329084c227c87f739d19541abb154854c7617d8651bd967e362b2a", func := "loop.example/g00920/laws.FnExactIsSquareMod", spec := "fnExactIsSquareMod", apart := false }
def FnExactIsSquareModSaid : Prop := fnExactIsSquareModRow.holds Try.pinned (OpenSpec.ofChange fnExactIsSquareModSpec)

/-- ITS FALSE NEIGHBOUR: 'it returns false'. Refute it at one input. -/
def fnExactIsSquareModWrong : ChangeSpec := { name := "fnExactIsSquareMod", fn := fun _ => fun
  | [d1, d2] => { results := [.lit (.bool false)], args := [d1, d2] }
  | _ => none }
def FnExactIsSquareModWrongFalsely : Prop := fnExactIsSquareModRow.holds Try.pinned (OpenSpec.ofChange fnExactIsSquareModWrong)

/-- 'laws.FnExactSquaresMod': WHATEVER THE INPUT: true; the input reads as it did. -/
def fnExactSquaresModSpec : ChangeSpec := { name := "fnExactSquaresMod", fn := fun _ => fun
  | [d] => { results := [.lit (.bool true)], args := [d] }
  | _ => none }
def fnExactSquaresModRow : OpenClaim := { program := "ytninajgnmogmeaa", sum := "92aa9772ba329084c227c87f739d19541abb154854c7617d8651bd967e362b2a", func := "loop.example/g00920/laws.FnExactSquaresMod", spec := "fnExactSquaresMod", apart := false }
def FnExactSquaresModSaid : Prop := fnExactSquaresModRow.holds Try.pinned (OpenSpec.ofChange fnExactSquaresModSpec)

/-- ITS FALSE NEIGHBOUR: 'it returns false'. Refute it at one input. -/
def fnExactSquaresModWrong : ChangeSpec := { name := "fnExactSquaresMod", fn := fun _ => fun
  | [d] => { results := [.lit (.bool false)], args := [d] }
  | _ => none }
def FnExactSquaresModWrongFalsely : Prop := fnExactSquaresModRow.holds Try.pinned (OpenSpec.ofChange fnExactSquaresModWrong)

/-- 'laws.FnExactSolveChinese': WHATEVER THE INPUT: true; the input reads as it did. -/
def fnExactSolveChineseSpec : ChangeSpec := { name := "fnExactSolveChinese", fn := fun _ => fun
  | [d1, d2, d3, d4] => { results := [.lit (.bool true)], args := [d1, d2, d3, d4] }
  | _ => none }
def fnExactSolveChineseRow : OpenClaim := { program := "ytninajgnmogmeaa", sum := "92aa9772ba329084c227c87f739d19541abb154854c7617d8651bd967e362b2a", func := "loop.example/g00920/laws.FnExactSolveChinese", spec := "fnExactSolveChinese", recurses := true, apart := false }
def FnExactSolveChineseSaid : Prop := fnExactSolveChineseRow.holds Try.pinned (OpenSpec.ofChange fnExactSolveChineseSpec)

/-- ITS FALSE NEIGHBOUR: 'it returns false'. Refute it at one input. -/
def fnExactSolveChineseWrong : ChangeSpec := { name := "fnExactSolveChinese", fn := fun _ => fun
  | [d1, d2, d3, d4] => { results := [.lit (.bool false)], args := [d1, d2, d3, d4] }
  | _ => none }
def FnExactSolveChineseWrongFalsely : Prop := fnExactSolveChineseRow.holds Try.pinned (OpenSpec.ofChange fnExactSolveChineseWrong)

/-- 'laws.FnChinese': WHATEVER THE INPUT: true; the input reads as it did. -/
def fnChineseSpec : ChangeSpec := { name := "fnChinese", fn := fun _ => fun
  | [d] => { results := [.lit (.bool true)], args := [d] }
  | _ => none }
def fnChineseRow : OpenClaim := { program := "ytninajgnmogmeaa", sum := "92aa9772ba329084c227c87f739d19541abb154854c7617d8651bd967e362b2a", func := "loop.example/g00920/laws.FnChinese", spec := "fnChinese", recurses := true, apart := false }
def FnChineseSaid : Prop := fnChineseRow.holds Try.pinned (OpenSpec.ofChange fnChineseSpec)

/-- ITS FALSE NEIGHBOUR: 'it returns false'. Refute it at one input. -/
def fnChineseWrong : ChangeSpec := { name := "fnChinese", fn := fun _ => fun
  | [d] => { results := [.lit (.bool false)], args := [d] }
  | _ => none }
def FnChineseWrongFalsely : Prop := fnChineseRow.holds Try.pinned (OpenSpec.ofChange fnChineseWrong)

/-- 'laws.FnResidues': WHATEVER THE INPUT: true; the input reads as it did. -/
def fnResiduesSpec : ChangeSpec := { name := "fnResidues", fn := fun _ => fun
  | [d1, d2] => { results := [.lit (.bool true)], args := [d1, d2] }
  | _ => none }
def fnResiduesRow : OpenClaim := { program := "ytninajgnmogmeaa", sum := "92aa9772ba329084c227c87f739d19541abb154854c7617d8651bd967e362b2a", func := "loop.example/g00920/laws.FnResidues", spec := "fnResidues", unfollowed := true, recurses := true, apart := false }
def FnResiduesSaid : Prop := fnResiduesRow.holds Try.pinned (OpenSpec.ofChange fnResiduesSpec)

/-- ITS FALSE NEIGHBOUR: 'it returns false'. Refute it at one input. -/
def fnResiduesWrong : ChangeSpec := { name := "fnResidues", fn := fun _ => fun
  | [d1, d2] => { results := [.lit (.bool false)], args := [d1, d2] }
  | _ => none }
def FnResiduesWrongFalsely : Prop := fnResiduesRow.holds Try.pinned (OpenSpec.ofChange fnResiduesWrong)

/-- 'laws.FnRoots': WHATEVER THE INPUT: true; the input reads as it did. -/
def fnRootsSpec : ChangeSpec := { name := "fnRoots", fn := fun _ => fun
  | [d1, d2] => { results := [.lit (.bool true)], args := [d1, d2] }
  | _ => none }
def fnRootsRow : OpenClaim := { program := "ytninajgnmogmeaa", sum := "92aa9772ba329084c227c87f739d19541abb154854c7617d8651bd967e362b2a", func := "loop.example/g00920/laws.FnRoots", spec := "fnRoots", unfollowed := true, recurses := true, apart := false }
def FnRootsSaid : Prop := fnRootsRow.holds Try.pinned (OpenSpec.ofChange fnRootsSpec)

/-- ITS FALSE NEIGHBOUR: 'it returns false'. Refute it at one input. -/
def fnRootsWrong : ChangeSpec := { name := "fnRoots", fn := fun _ => fun
  | [d1, d2] => { results := [.lit (.bool false)], args := [d1, d2] }
  | _ => none }
def FnRootsWrongFalsely : Prop := fnRootsRow.holds Try.pinned (OpenSpec.ofChange fnRootsWrong)

/-- 'laws.FnFactors': WHATEVER THE INPUT: true; the input reads as it did. -/
def fnFactorsSpec : ChangeSpec := { name := "fnFactors", fn := fun _ => fun
  | [d] => { results := [.lit (.bool true)], args := [d] }
  | _ => none }
def fnFactorsRow : OpenClaim := { program := "ytninajgnmogmeaa", sum := "92aa9772ba329084c227c87f739d19541abb154854c7617d8651bd967e362b2a", func := "loop.example/g00920/laws.FnFactors", spec := "fnFactors", unfollowed := true, recurses := true, apart := false }
def FnFactorsSaid : Prop := fnFactorsRow.holds Try.pinned (OpenSpec.ofChange fnFactorsSpec)

/-- ITS FALSE NEIGHBOUR: 'it returns false'. Refute it at one input. -/
def fnFactorsWrong : ChangeSpec := { name := "fnFactors", fn := fun _ => fun
  | [d] => { results := [.lit (.bool false)], args := [d] }
  | _ => none }
def FnFactorsWrongFalsely : Prop := fnFactorsRow.holds Try.pinned (OpenSpec.ofChange fnFactorsWrong)

/- THE SECOND FORM. 'bulk': how many values and letters a reading holds, each counted each time it is reached (what is shared counts as often as it is met; a slice's spare places count too). A statement '..UptoSaid' is the law's where the arguments, and the package variables that the reading takes, are together of bulk at most 1048576: NARROWER than '..Said'. Prove '..Said' where nothing that the law and all that it calls make is longer than what came in: it says more and counts as full. Else prove '..UptoSaid'. A law counts once. -/
mutual
def uptoBulk {H : Type} : DataW H → Nat
  | .lit (.string bytes) => bytes.length + 1
  | .lit _ => 1
  | .nil => 1
  | .ptr d => uptoBulk d + 1
  | .slice elems spare => uptoBulkAll elems + uptoBulkAll spare + 1
  | .agg parts => uptoBulkAll parts + 1
  | .iface _ d => uptoBulk d + 1
  | .map entries => uptoBulkEntries entries + 1
  | .held _ => 1
def uptoBulkAll {H : Type} : List (DataW H) → Nat
  | [] => 0
  | d :: r => uptoBulk d + uptoBulkAll r
def uptoBulkEntries {H : Type} : List (Lit × DataW H) → Nat
  | [] => 0
  | x :: r => uptoBulkEntry x + uptoBulkEntries r
def uptoBulkEntry {H : Type} : Lit × DataW H → Nat
  | (.string bytes, d) => bytes.length + uptoBulk d + 1
  | (_, d) => uptoBulk d + 1
 end
def uptoSmall : (H : Type) → List (DataW H) → Bool := fun _ ds => decide (uptoBulkAll ds ≤ 1048576)
def OpenSpec.upto (s : _root_.Go.ChangeSpec) : _root_.Go.OpenSpec := { _root_.Go.OpenSpec.ofChange s with cond := some uptoSmall }

/-- 'laws.FnExactGcd', WHERE WHAT IT READS IS OF BULK AT MOST 1048576: true; the input reads as it did. -/
def fnExactGcdUptoRow : OpenClaim := { program := "ytninajgnmogmeaa", sum := "92aa9772ba329084c227c87f739d19541abb154854c7617d8651bd967e362b2a", func := "loop.example/g00920/laws.FnExactGcd", spec := "fnExactGcd", recurses := true, apart := false, narrowed := true }
def FnExactGcdUptoSaid : Prop := fnExactGcdUptoRow.holds Try.pinned (OpenSpec.upto fnExactGcdSpec)

/-- 'laws.FnExactPowerMod', WHERE WHAT IT READS IS OF BULK AT MOST 1048576: true; the input reads as it did. -/
def fnExactPowerModUptoRow : OpenClaim := { program := "ytninajgnmogmeaa", sum := "92aa9772ba329084c227c87f739d19541abb154854c7617d8651bd967e362b2a", func := "loop.example/g00920/laws.FnExactPowerMod", spec := "fnExactPowerMod", unfollowed := true, recurses := true, apart := false, narrowed := true }
def FnExactPowerModUptoSaid : Prop := fnExactPowerModUptoRow.holds Try.pinned (OpenSpec.upto fnExactPowerModSpec)

/-- 'laws.FnExactInverseMod', WHERE WHAT IT READS IS OF BULK AT MOST 1048576: true; the input reads as it did. -/
def fnExactInverseModUptoRow : OpenClaim := { program := "ytninajgnmogmeaa", sum := "92aa9772ba329084c227c87f739d19541abb154854c7617d8651bd967e362b2a", func := "loop.example/g00920/laws.FnExactInverseMod", spec := "fnExactInverseMod", recurses := true, apart := false, narrowed := true }
def FnExactInverseModUptoSaid : Prop := fnExactInverseModUptoRow.holds Try.pinned (OpenSpec.upto fnExactInverseModSpec)

/-- 'laws.FnExactIsPrime', WHERE WHAT IT READS IS OF BULK AT MOST 1048576: true; the input reads as it did. -/
def fnExactIsPrimeUptoRow : OpenClaim := { program := "ytninajgnmogmeaa", sum := "92aa9772ba329084c227c87f739d19541abb154854c7617d8651bd967e362b2a", func := "loop.example/g00920/laws.FnExactIsPrime", spec := "fnExactIsPrime", unfollowed := true, recurses := true, apart := false, narrowed := true }
def FnExactIsPrimeUptoSaid : Prop := fnExactIsPrimeUptoRow.holds Try.pinned (OpenSpec.upto fnExactIsPrimeSpec)

/-- 'laws.FnExactFactorsOf', WHERE WHAT IT READS IS OF BULK AT MOST 1048576: true; the input reads as it did. -/
def fnExactFactorsOfUptoRow : OpenClaim := { program := "ytninajgnmogmeaa", sum := "92aa9772ba329084c227c87f739d19541abb154854c7617d8651bd967e362b2a", func := "loop.example/g00920/laws.FnExactFactorsOf", spec := "fnExactFactorsOf", unfollowed := true, recurses := true, apart := false, narrowed := true }
def FnExactFactorsOfUptoSaid : Prop := fnExactFactorsOfUptoRow.holds Try.pinned (OpenSpec.upto fnExactFactorsOfSpec)

/-- 'laws.FnExactPrimePower', WHERE WHAT IT READS IS OF BULK AT MOST 1048576: true; the input reads as it did. -/
def fnExactPrimePowerUptoRow : OpenClaim := { program := "ytninajgnmogmeaa", sum := "92aa9772ba329084c227c87f739d19541abb154854c7617d8651bd967e362b2a", func := "loop.example/g00920/laws.FnExactPrimePower", spec := "fnExactPrimePower", unfollowed := true, recurses := true, apart := false, narrowed := true }
def FnExactPrimePowerUptoSaid : Prop := fnExactPrimePowerUptoRow.holds Try.pinned (OpenSpec.upto fnExactPrimePowerSpec)

/-- 'laws.FnExactOrderMod', WHERE WHAT IT READS IS OF BULK AT MOST 1048576: true; the input reads as it did. -/
def fnExactOrderModUptoRow : OpenClaim := { program := "ytninajgnmogmeaa", sum := "92aa9772ba329084c227c87f739d19541abb154854c7617d8651bd967e362b2a", func := "loop.example/g00920/laws.FnExactOrderMod", spec := "fnExactOrderMod", recurses := true, apart := false, narrowed := true }
def FnExactOrderModUptoSaid : Prop := fnExactOrderModUptoRow.holds Try.pinned (OpenSpec.upto fnExactOrderModSpec)

/-- 'laws.FnExactPrimitiveRoot', WHERE WHAT IT READS IS OF BULK AT MOST 1048576: true; the input reads as it did. -/
def fnExactPrimitiveRootUptoRow : OpenClaim := { program := "ytninajgnmogmeaa", sum := "92aa9772ba329084c227c87f739d19541abb154854c7617d8651bd967e362b2a", func := "loop.example/g00920/laws.FnExactPrimitiveRoot", spec := "fnExactPrimitiveRoot", unfollowed := true, recurses := true, apart := false, narrowed := true }
def FnExactPrimitiveRootUptoSaid : Prop := fnExactPrimitiveRootUptoRow.holds Try.pinned (OpenSpec.upto fnExactPrimitiveRootSpec)

/-- 'laws.FnExactIsSquareMod', WHERE WHAT IT READS IS OF BULK AT MOST 1048576: true; the input reads as it did. -/
def fnExactIsSquareModUptoRow : OpenClaim := { program := "ytninajgnmogmeaa", sum := "92aa9772ba329084c227c87f739d19541abb154854c7617d8651bd967e362b2a", func := "loop.example/g00920/laws.FnExactIsSquareMod", spec := "fnExactIsSquareMod", apart := false, narrowed := true }
def FnExactIsSquareModUptoSaid : Prop := fnExactIsSquareModUptoRow.holds Try.pinned (OpenSpec.upto fnExactIsSquareModSpec)

/-- 'laws.FnExactSquaresMod', WHERE WHAT IT READS IS OF BULK AT MOST 1048576: true; the input reads as it did. -/
def fnExactSquaresModUptoRow : OpenClaim := { program := "ytninajgnmogmeaa", sum := "92aa9772ba329084c227c87f739d19541abb154854c7617d8651bd967e362b2a", func := "loop.example/g00920/laws.FnExactSquaresMod", spec := "fnExactSquaresMod", apart := false, narrowed := true }
def FnExactSquaresModUptoSaid : Prop := fnExactSquaresModUptoRow.holds Try.pinned (OpenSpec.upto fnExactSquaresModSpec)

/-- 'laws.FnExactSolveChinese', WHERE WHAT IT READS IS OF BULK AT MOST 1048576: true; the input reads as it did. -/
def fnExactSolveChineseUptoRow : OpenClaim := { program := "ytninajgnmogmeaa", sum := "92aa9772ba329084c227c87f739d19541abb154854c7617d8651bd967e362b2a", func := "loop.example/g00920/laws.FnExactSolveChinese", spec := "fnExactSolveChinese", recurses := true, apart := false, narrowed := true }
def FnExactSolveChineseUptoSaid : Prop := fnExactSolveChineseUptoRow.holds Try.pinned (OpenSpec.upto fnExactSolveChineseSpec)

/-- 'laws.FnChinese', WHERE WHAT IT READS IS OF BULK AT MOST 1048576: true; the input reads as it did. -/
def fnChineseUptoRow : OpenClaim := { program := "ytninajgnmogmeaa", sum := "92aa9772ba329084c227c87f739d19541abb154854c7617d8651bd967e362b2a", func := "loop.example/g00920/laws.FnChinese", spec := "fnChinese", recurses := true, apart := false, narrowed := true }
def FnChineseUptoSaid : Prop := fnChineseUptoRow.holds Try.pinned (OpenSpec.upto fnChineseSpec)

/-- 'laws.FnResidues', WHERE WHAT IT READS IS OF BULK AT MOST 1048576: true; the input reads as it did. -/
def fnResiduesUptoRow : OpenClaim := { program := "ytninajgnmogmeaa", sum := "92aa9772ba329084c227c87f739d19541abb154854c7617d8651bd967e362b2a", func := "loop.example/g00920/laws.FnResidues", spec := "fnResidues", unfollowed := true, recurses := true, apart := false, narrowed := true }
def FnResiduesUptoSaid : Prop := fnResiduesUptoRow.holds Try.pinned (OpenSpec.upto fnResiduesSpec)

/-- 'laws.FnRoots', WHERE WHAT IT READS IS OF BULK AT MOST 1048576: true; the input reads as it did. -/
def fnRootsUptoRow : OpenClaim := { program := "ytninajgnmogmeaa", sum := "92aa9772ba329084c227c87f739d19541abb154854c7617d8651bd967e362b2a", func := "loop.example/g00920/laws.FnRoots", spec := "fnRoots", unfollowed := true, recurses := true, apart := false, narrowed := true }
def FnRootsUptoSaid : Prop := fnRootsUptoRow.holds Try.pinned (OpenSpec.upto fnRootsSpec)

/-- 'laws.FnFactors', WHERE WHAT IT READS IS OF BULK AT MOST 1048576: true; the input reads as it did. -/
def fnFactorsUptoRow : OpenClaim := { program := "ytninajgnmogmeaa", sum := "92aa9772ba329084c227c87f739d19541abb154854c7617d8651bd967e362b2a", func := "loop.example/g00920/laws.FnFactors", spec := "fnFactors", unfollowed := true, recurses := true, apart := false, narrowed := true }
def FnFactorsUptoSaid : Prop := fnFactorsUptoRow.holds Try.pinned (OpenSpec.upto fnFactorsSpec)

end Rows
end Go.Proofs.Ytninajgnmogmeaa
