/-
  No cell of these rows narrows 'for every input' (looked for: loops, veiled, ifaces, maps, wideKeys, modest, calm, conditions, laid).
  DERIVED. THE GIVEN ROWS OF THIS SEAT. 14 by the template 'for every input the law returns true; each argument reads behind the call as it read before'; 0 by the template 'total and deterministic' (their statements: YtcgmencdadinbaaTotals.lean).
  GIVEN WITH THE SEED: the statements are not yours to turn. If you find one false, say at which input.
  Laid BY PROGRAM, IN A SANDBOX (cutbox-rows.mjs): the forced cells as the released guide's own fill.sh prints them over the translation 945706dbf02e420a… (all of the seat's roots in one cut). By AI agents, Wed Nov 11 2026. No macro, syntax, notation, axiom, sorry.
-/
import Derived.Test.YtcgmencdadinbaaChecked
import GoSem.Claim
import GoSem.ClaimJoined
import GoSem.ClaimMapViews
import Derived.JoinedTies
import Derived.KernelRfl
namespace Go.Proofs.Ytcgmencdadinbaa
/- THE CELL 'sum', in the pinned program and in every row, IS THE sha256 OF THE DUMP (.gsa) THAT YtcgmencdadinbaaProg.lean LOADS. Nothing in Lean hashes anything: it is a label: what it is worth is what the hold of that sum in a sandbox is worth. -/
noncomputable def Try.pinned : Pinned := { name := "ytcgmencdadinbaa", sum := "945706dbf02e420a8078b61d2d26d6788ff550ed89882719f6439157b5d06c51", checked := Try.checked }
namespace Rows
def none {H : Type} : Left H := { results := [], args := [] }

/-- 'laws.FnExactValidPermutation': WHATEVER THE INPUT: true; the input reads as it did. -/
def fnExactValidPermutationSpec : ChangeSpec := { name := "fnExactValidPermutation", fn := fun _ => fun
  | [d] => { results := [.lit (.bool true)], args := [d] }
  | _ => none }
def fnExactValidPermutationRow : OpenClaim := { program := "ytcgmencdadinbaa", sum := "945706dbf02e420a8078b61d2d26d6788ff550ed89882719f6439157b5d06c51", func := "loop.example/g00920/laws.FnExactValidPermutation", spec := "fnExactValidPermutation", apart := false }
def FnExactValidPermutationSaid : Prop := fnExactValidPermutationRow.holds Try.pinned (OpenSpec.ofChange fnExactValidPermutationSpec)

/-- ITS FALSE NEIGHBOUR: 'it returns false'. Refute it at one input. -/
def fnExactValidPermutationWrong : ChangeSpec := { name := "fnExactValidPermutation", fn := fun _ => fun
  | [d] => { results := [.lit (.bool false)], args := [d] }
  | _ => none }
def FnExactValidPermutationWrongFalsely : Prop := fnExactValidPermutationRow.holds Try.pinned (OpenSpec.ofChange fnExactValidPermutationWrong)

/-- 'laws.FnExactIdentityPermutation': WHATEVER THE INPUT: true; the input reads as it did. -/
def fnExactIdentityPermutationSpec : ChangeSpec := { name := "fnExactIdentityPermutation", fn := fun _ => fun
  | [d] => { results := [.lit (.bool true)], args := [d] }
  | _ => none }
def fnExactIdentityPermutationRow : OpenClaim := { program := "ytcgmencdadinbaa", sum := "945706dbf02e420a8078b61d2d26d6788ff550ed89882719f6439157b5d06c51", func := "loop.example/g00920/laws.FnExactIdentityPermutation", spec := "fnExactIdentityPermutation", apart := false }
def FnExactIdentityPermutationSaid : Prop := fnExactIdentityPermutationRow.holds Try.pinned (OpenSpec.ofChange fnExactIdentityPermutationSpec)

/-- ITS FALSE NEIGHBOUR: 'it returns false'. Refute it at one input. -/
def fnExactIdentityPermutationWrong : ChangeSpec := { name := "fnExactIdentityPermutation", fn := fun _ => fun
  | [d] => { results := [.lit (.bool false)], args := [d] }
  | _ => none }
def FnExactIdentityPermutationWrongFalsely : Prop := fnExactIdentityPermutationRow.holds Try.pinned (OpenSpec.ofChange fnExactIdentityPermutationWrong)

/-- 'laws.FnExactCompose': WHATEVER THE INPUT: true; the input reads as it did. -/
def fnExactComposeSpec : ChangeSpec := { name := "fnExactCompose", fn := fun _ => fun
  | [d1, d2] => { results := [.lit (.bool true)], args := [d1, d2] }
  | _ => none }
def fnExactComposeRow : OpenClaim := { program := "ytcgmencdadinbaa", sum := "945706dbf02e420a8078b61d2d26d6788ff550ed89882719f6439157b5d06c51", func := "loop.example/g00920/laws.FnExactCompose", spec := "fnExactCompose", unfollowed := true, recurses := true, apart := false }
def FnExactComposeSaid : Prop := fnExactComposeRow.holds Try.pinned (OpenSpec.ofChange fnExactComposeSpec)

/-- ITS FALSE NEIGHBOUR: 'it returns false'. Refute it at one input. -/
def fnExactComposeWrong : ChangeSpec := { name := "fnExactCompose", fn := fun _ => fun
  | [d1, d2] => { results := [.lit (.bool false)], args := [d1, d2] }
  | _ => none }
def FnExactComposeWrongFalsely : Prop := fnExactComposeRow.holds Try.pinned (OpenSpec.ofChange fnExactComposeWrong)

/-- 'laws.FnExactInvertPermutation': WHATEVER THE INPUT: true; the input reads as it did. -/
def fnExactInvertPermutationSpec : ChangeSpec := { name := "fnExactInvertPermutation", fn := fun _ => fun
  | [d] => { results := [.lit (.bool true)], args := [d] }
  | _ => none }
def fnExactInvertPermutationRow : OpenClaim := { program := "ytcgmencdadinbaa", sum := "945706dbf02e420a8078b61d2d26d6788ff550ed89882719f6439157b5d06c51", func := "loop.example/g00920/laws.FnExactInvertPermutation", spec := "fnExactInvertPermutation", apart := false }
def FnExactInvertPermutationSaid : Prop := fnExactInvertPermutationRow.holds Try.pinned (OpenSpec.ofChange fnExactInvertPermutationSpec)

/-- ITS FALSE NEIGHBOUR: 'it returns false'. Refute it at one input. -/
def fnExactInvertPermutationWrong : ChangeSpec := { name := "fnExactInvertPermutation", fn := fun _ => fun
  | [d] => { results := [.lit (.bool false)], args := [d] }
  | _ => none }
def FnExactInvertPermutationWrongFalsely : Prop := fnExactInvertPermutationRow.holds Try.pinned (OpenSpec.ofChange fnExactInvertPermutationWrong)

/-- 'laws.FnExactPowerPermutation': WHATEVER THE INPUT: true; the input reads as it did. -/
def fnExactPowerPermutationSpec : ChangeSpec := { name := "fnExactPowerPermutation", fn := fun _ => fun
  | [d1, d2] => { results := [.lit (.bool true)], args := [d1, d2] }
  | _ => none }
def fnExactPowerPermutationRow : OpenClaim := { program := "ytcgmencdadinbaa", sum := "945706dbf02e420a8078b61d2d26d6788ff550ed89882719f6439157b5d06c51", func := "loop.example/g00920/laws.FnExactPowerPermutation", spec := "fnExactPowerPermutation", unfollowed := true, recurses := true, apart := false }
def FnExactPowerPermutationSaid : Prop := fnExactPowerPermutationRow.holds Try.pinned (OpenSpec.ofChange fnExactPowerPermutationSpec)

/-- ITS FALSE NEIGHBOUR: 'it returns false'. Refute it at one input. -/
def fnExactPowerPermutationWrong : ChangeSpec := { name := "fnExactPowerPermutation", fn := fun _ => fun
  | [d1, d2] => { results := [.lit (.bool false)], args := [d1, d2] }
  | _ => none }
def FnExactPowerPermutationWrongFalsely : Prop := fnExactPowerPermutationRow.holds Try.pinned (OpenSpec.ofChange fnExactPowerPermutationWrong)

/-- 'laws.FnExactCyclesOf': WHATEVER THE INPUT: true; the input reads as it did. -/
def fnExactCyclesOfSpec : ChangeSpec := { name := "fnExactCyclesOf", fn := fun _ => fun
  | [d] => { results := [.lit (.bool true)], args := [d] }
  | _ => none }
def fnExactCyclesOfRow : OpenClaim := { program := "ytcgmencdadinbaa", sum := "945706dbf02e420a8078b61d2d26d6788ff550ed89882719f6439157b5d06c51", func := "loop.example/g00920/laws.FnExactCyclesOf", spec := "fnExactCyclesOf", unfollowed := true, recurses := true, apart := false }
def FnExactCyclesOfSaid : Prop := fnExactCyclesOfRow.holds Try.pinned (OpenSpec.ofChange fnExactCyclesOfSpec)

/-- ITS FALSE NEIGHBOUR: 'it returns false'. Refute it at one input. -/
def fnExactCyclesOfWrong : ChangeSpec := { name := "fnExactCyclesOf", fn := fun _ => fun
  | [d] => { results := [.lit (.bool false)], args := [d] }
  | _ => none }
def FnExactCyclesOfWrongFalsely : Prop := fnExactCyclesOfRow.holds Try.pinned (OpenSpec.ofChange fnExactCyclesOfWrong)

/-- 'laws.FnExactPermutationOfCycles': WHATEVER THE INPUT: true; the input reads as it did. -/
def fnExactPermutationOfCyclesSpec : ChangeSpec := { name := "fnExactPermutationOfCycles", fn := fun _ => fun
  | [d1, d2] => { results := [.lit (.bool true)], args := [d1, d2] }
  | _ => none }
def fnExactPermutationOfCyclesRow : OpenClaim := { program := "ytcgmencdadinbaa", sum := "945706dbf02e420a8078b61d2d26d6788ff550ed89882719f6439157b5d06c51", func := "loop.example/g00920/laws.FnExactPermutationOfCycles", spec := "fnExactPermutationOfCycles", apart := false }
def FnExactPermutationOfCyclesSaid : Prop := fnExactPermutationOfCyclesRow.holds Try.pinned (OpenSpec.ofChange fnExactPermutationOfCyclesSpec)

/-- ITS FALSE NEIGHBOUR: 'it returns false'. Refute it at one input. -/
def fnExactPermutationOfCyclesWrong : ChangeSpec := { name := "fnExactPermutationOfCycles", fn := fun _ => fun
  | [d1, d2] => { results := [.lit (.bool false)], args := [d1, d2] }
  | _ => none }
def FnExactPermutationOfCyclesWrongFalsely : Prop := fnExactPermutationOfCyclesRow.holds Try.pinned (OpenSpec.ofChange fnExactPermutationOfCyclesWrong)

/-- 'laws.FnExactCycleType': WHATEVER THE INPUT: true; the input reads as it did. -/
def fnExactCycleTypeSpec : ChangeSpec := { name := "fnExactCycleType", fn := fun _ => fun
  | [d] => { results := [.lit (.bool true)], args := [d] }
  | _ => none }
def fnExactCycleTypeRow : OpenClaim := { program := "ytcgmencdadinbaa", sum := "945706dbf02e420a8078b61d2d26d6788ff550ed89882719f6439157b5d06c51", func := "loop.example/g00920/laws.FnExactCycleType", spec := "fnExactCycleType", unfollowed := true, recurses := true, apart := false }
def FnExactCycleTypeSaid : Prop := fnExactCycleTypeRow.holds Try.pinned (OpenSpec.ofChange fnExactCycleTypeSpec)

/-- ITS FALSE NEIGHBOUR: 'it returns false'. Refute it at one input. -/
def fnExactCycleTypeWrong : ChangeSpec := { name := "fnExactCycleType", fn := fun _ => fun
  | [d] => { results := [.lit (.bool false)], args := [d] }
  | _ => none }
def FnExactCycleTypeWrongFalsely : Prop := fnExactCycleTypeRow.holds Try.pinned (OpenSpec.ofChange fnExactCycleTypeWrong)

/-- 'laws.FnExactOrderOfPermutation': WHATEVER THE INPUT: true; the input reads as it did. -/
def fnExactOrderOfPermutationSpec : ChangeSpec := { name := "fnExactOrderOfPermutation", fn := fun _ => fun
  | [d] => { results := [.lit (.bool true)], args := [d] }
  | _ => none }
def fnExactOrderOfPermutationRow : OpenClaim := { program := "ytcgmencdadinbaa", sum := "945706dbf02e420a8078b61d2d26d6788ff550ed89882719f6439157b5d06c51", func := "loop.example/g00920/laws.FnExactOrderOfPermutation", spec := "fnExactOrderOfPermutation", unfollowed := true, recurses := true, apart := false }
def FnExactOrderOfPermutationSaid : Prop := fnExactOrderOfPermutationRow.holds Try.pinned (OpenSpec.ofChange fnExactOrderOfPermutationSpec)

/-- ITS FALSE NEIGHBOUR: 'it returns false'. Refute it at one input. -/
def fnExactOrderOfPermutationWrong : ChangeSpec := { name := "fnExactOrderOfPermutation", fn := fun _ => fun
  | [d] => { results := [.lit (.bool false)], args := [d] }
  | _ => none }
def FnExactOrderOfPermutationWrongFalsely : Prop := fnExactOrderOfPermutationRow.holds Try.pinned (OpenSpec.ofChange fnExactOrderOfPermutationWrong)

/-- 'laws.FnExactSignOf': WHATEVER THE INPUT: true; the input reads as it did. -/
def fnExactSignOfSpec : ChangeSpec := { name := "fnExactSignOf", fn := fun _ => fun
  | [d] => { results := [.lit (.bool true)], args := [d] }
  | _ => none }
def fnExactSignOfRow : OpenClaim := { program := "ytcgmencdadinbaa", sum := "945706dbf02e420a8078b61d2d26d6788ff550ed89882719f6439157b5d06c51", func := "loop.example/g00920/laws.FnExactSignOf", spec := "fnExactSignOf", unfollowed := true, recurses := true, apart := false }
def FnExactSignOfSaid : Prop := fnExactSignOfRow.holds Try.pinned (OpenSpec.ofChange fnExactSignOfSpec)

/-- ITS FALSE NEIGHBOUR: 'it returns false'. Refute it at one input. -/
def fnExactSignOfWrong : ChangeSpec := { name := "fnExactSignOf", fn := fun _ => fun
  | [d] => { results := [.lit (.bool false)], args := [d] }
  | _ => none }
def FnExactSignOfWrongFalsely : Prop := fnExactSignOfRow.holds Try.pinned (OpenSpec.ofChange fnExactSignOfWrong)

/-- 'laws.FnExactRankPermutation': WHATEVER THE INPUT: true; the input reads as it did. -/
def fnExactRankPermutationSpec : ChangeSpec := { name := "fnExactRankPermutation", fn := fun _ => fun
  | [d] => { results := [.lit (.bool true)], args := [d] }
  | _ => none }
def fnExactRankPermutationRow : OpenClaim := { program := "ytcgmencdadinbaa", sum := "945706dbf02e420a8078b61d2d26d6788ff550ed89882719f6439157b5d06c51", func := "loop.example/g00920/laws.FnExactRankPermutation", spec := "fnExactRankPermutation", apart := false }
def FnExactRankPermutationSaid : Prop := fnExactRankPermutationRow.holds Try.pinned (OpenSpec.ofChange fnExactRankPermutationSpec)

/-- ITS FALSE NEIGHBOUR: 'it returns false'. Refute it at one input. -/
def fnExactRankPermutationWrong : ChangeSpec := { name := "fnExactRankPermutation", fn := fun _ => fun
  | [d] => { results := [.lit (.bool false)], args := [d] }
  | _ => none }
def FnExactRankPermutationWrongFalsely : Prop := fnExactRankPermutationRow.holds Try.pinned (OpenSpec.ofChange fnExactRankPermutationWrong)

/-- 'laws.FnExactUnrankPermutation': WHATEVER THE INPUT: true; the input reads as it did. -/
def fnExactUnrankPermutationSpec : ChangeSpec := { name := "fnExactUnrankPermutation", fn := fun _ => fun
  | [d1, d2] => { results := [.lit (.bool true)], args := [d1, d2] }
  | _ => none }
def fnExactUnrankPermutationRow : OpenClaim := { program := "ytcgmencdadinbaa", sum := "945706dbf02e420a8078b61d2d26d6788ff550ed89882719f6439157b5d06c51", func := "loop.example/g00920/laws.FnExactUnrankPermutation", spec := "fnExactUnrankPermutation", apart := false }
def FnExactUnrankPermutationSaid : Prop := fnExactUnrankPermutationRow.holds Try.pinned (OpenSpec.ofChange fnExactUnrankPermutationSpec)

/-- ITS FALSE NEIGHBOUR: 'it returns false'. Refute it at one input. -/
def fnExactUnrankPermutationWrong : ChangeSpec := { name := "fnExactUnrankPermutation", fn := fun _ => fun
  | [d1, d2] => { results := [.lit (.bool false)], args := [d1, d2] }
  | _ => none }
def FnExactUnrankPermutationWrongFalsely : Prop := fnExactUnrankPermutationRow.holds Try.pinned (OpenSpec.ofChange fnExactUnrankPermutationWrong)

/-- 'laws.FnPermutations': WHATEVER THE INPUT: true; the input reads as it did. -/
def fnPermutationsSpec : ChangeSpec := { name := "fnPermutations", fn := fun _ => fun
  | [d1, d2] => { results := [.lit (.bool true)], args := [d1, d2] }
  | _ => none }
def fnPermutationsRow : OpenClaim := { program := "ytcgmencdadinbaa", sum := "945706dbf02e420a8078b61d2d26d6788ff550ed89882719f6439157b5d06c51", func := "loop.example/g00920/laws.FnPermutations", spec := "fnPermutations", unfollowed := true, recurses := true, apart := false }
def FnPermutationsSaid : Prop := fnPermutationsRow.holds Try.pinned (OpenSpec.ofChange fnPermutationsSpec)

/-- ITS FALSE NEIGHBOUR: 'it returns false'. Refute it at one input. -/
def fnPermutationsWrong : ChangeSpec := { name := "fnPermutations", fn := fun _ => fun
  | [d1, d2] => { results := [.lit (.bool false)], args := [d1, d2] }
  | _ => none }
def FnPermutationsWrongFalsely : Prop := fnPermutationsRow.holds Try.pinned (OpenSpec.ofChange fnPermutationsWrong)

/-- 'laws.FnCycles': WHATEVER THE INPUT: true; the input reads as it did. -/
def fnCyclesSpec : ChangeSpec := { name := "fnCycles", fn := fun _ => fun
  | [d1, d2] => { results := [.lit (.bool true)], args := [d1, d2] }
  | _ => none }
def fnCyclesRow : OpenClaim := { program := "ytcgmencdadinbaa", sum := "945706dbf02e420a8078b61d2d26d6788ff550ed89882719f6439157b5d06c51", func := "loop.example/g00920/laws.FnCycles", spec := "fnCycles", unfollowed := true, recurses := true, apart := false }
def FnCyclesSaid : Prop := fnCyclesRow.holds Try.pinned (OpenSpec.ofChange fnCyclesSpec)

/-- ITS FALSE NEIGHBOUR: 'it returns false'. Refute it at one input. -/
def fnCyclesWrong : ChangeSpec := { name := "fnCycles", fn := fun _ => fun
  | [d1, d2] => { results := [.lit (.bool false)], args := [d1, d2] }
  | _ => none }
def FnCyclesWrongFalsely : Prop := fnCyclesRow.holds Try.pinned (OpenSpec.ofChange fnCyclesWrong)

/- THE SECOND FORM. 'bulk': how many values and letters a reading holds, each counted each time it is reached (what is shared counts as often as it is met; a slice's spare places count too). A statement '..UptoSaid' is the law's where the arguments, and the package variables that the reading takes, are together of bulk at most 1048576: NARROWER than '..Said'. Prove '..Said' where nothing that the law and all that it calls make is longer than what came in: it says more and counts as full. Else prove '..UptoSaid'. A law counts once. -/
mutual
def uptoBulk {H : Type} : DataW H → Nat
  | .lit (.string bytes) => bytes.length + 1
  | .lit _ => 1
  | .nil => 1
  | .ptr d => uptoBulk d + 1
  | .slice elems spare => uptoBulkAll elems + uptoBulkAll spare + 1
  | .agg parts => uptoBulkAll parts + 1
  | .iface _ d => uptoBulk d + 1
  | .map entries => uptoBulkEntries entries + 1
  | .held _ => 1
def uptoBulkAll {H : Type} : List (DataW H) → Nat
  | [] => 0
  | d :: r => uptoBulk d + uptoBulkAll r
def uptoBulkEntries {H : Type} : List (Lit × DataW H) → Nat
  | [] => 0
  | x :: r => uptoBulkEntry x + uptoBulkEntries r
def uptoBulkEntry {H : Type} : Lit × DataW H → Nat
  | (.string bytes, d) => bytes.length + uptoBulk d + 1
  | (_, d) => uptoBulk d + 1
 end
def uptoSmall : (H : Type) → List (DataW H) → Bool := fun _ ds => decide (uptoBulkAll ds ≤ 1048576)
def OpenSpec.upto (s : _root_.Go.ChangeSpec) : _root_.Go.OpenSpec := { _root_.Go.OpenSpec.ofChange s with cond := some uptoSmall }

/-- 'laws.FnExactValidPermutation', WHERE WHAT IT READS IS OF BULK AT MOST 1048576: true; the input reads as it did. -/
def fnExactValidPermutationUptoRow : OpenClaim := { program := "ytcgmencdadinbaa", sum := "945706dbf02e420a8078b61d2d26d6788ff550ed89882719f6439157b5d06c51", func := "loop.example/g00920/laws.FnExactValidPermutation", spec := "fnExactValidPermutation", apart := false, narrowed := true }
def FnExactValidPermutationUptoSaid : Prop := fnExactValidPermutationUptoRow.holds Try.pinned (OpenSpec.upto fnExactValidPermutationSpec)

/-- 'laws.FnExactIdentityPermutation', WHERE WHAT IT READS IS OF BULK AT MOST 1048576: true; the input reads as it did. -/
def fnExactIdentityPermutationUptoRow : OpenClaim := { program := "ytcgmencdadinbaa", sum := "945706dbf02e420a8078b61d2d26d6788ff550ed89882719f6439157b5d06c51", func := "loop.example/g00920/laws.FnExactIdentityPermutation", spec := "fnExactIdentityPermutation", apart := false, narrowed := true }
def FnExactIdentityPermutationUptoSaid : Prop := fnExactIdentityPermutationUptoRow.holds Try.pinned (OpenSpec.upto fnExactIdentityPermutationSpec)

/-- 'laws.FnExactCompose', WHERE WHAT IT READS IS OF BULK AT MOST 1048576: true; the input reads as it did. -/
def fnExactComposeUptoRow : OpenClaim := { program := "ytcgmencdadinbaa", sum := "945706dbf02e420a8078b61d2d26d6788ff550ed89882719f6439157b5d06c51", func := "loop.example/g00920/laws.FnExactCompose", spec := "fnExactCompose", unfollowed := true, recurses := true, apart := false, narrowed := true }
def FnExactComposeUptoSaid : Prop := fnExactComposeUptoRow.holds Try.pinned (OpenSpec.upto fnExactComposeSpec)

/-- 'laws.FnExactInvertPermutation', WHERE WHAT IT READS IS OF BULK AT MOST 1048576: true; the input reads as it did. -/
def fnExactInvertPermutationUptoRow : OpenClaim := { program := "ytcgmencdadinbaa", sum := "945706dbf02e420a8078b61d2d26d6788ff550ed89882719f6439157b5d06c51", func := "loop.example/g00920/laws.FnExactInvertPermutation", spec := "fnExactInvertPermutation", apart := false, narrowed := true }
def FnExactInvertPermutationUptoSaid : Prop := fnExactInvertPermutationUptoRow.holds Try.pinned (OpenSpec.upto fnExactInvertPermutationSpec)

/-- 'laws.FnExactPowerPermutation', WHERE WHAT IT READS IS OF BULK AT MOST 1048576: true; the input reads as it did. -/
def fnExactPowerPermutationUptoRow : OpenClaim := { program := "ytcgmencdadinbaa", sum := "945706dbf02e420a8078b61d2d26d6788ff550ed89882719f6439157b5d06c51", func := "loop.example/g00920/laws.FnExactPowerPermutation", spec := "fnExactPowerPermutation", unfollowed := true, recurses := true, apart := false, narrowed := true }
def FnExactPowerPermutationUptoSaid : Prop := fnExactPowerPermutationUptoRow.holds Try.pinned (OpenSpec.upto fnExactPowerPermutationSpec)

/-- 'laws.FnExactCyclesOf', WHERE WHAT IT READS IS OF BULK AT MOST 1048576: true; the input reads as it did. -/
def fnExactCyclesOfUptoRow : OpenClaim := { program := "ytcgmencdadinbaa", sum := "945706dbf02e420a8078b61d2d26d6788ff550ed89882719f6439157b5d06c51", func := "loop.example/g00920/laws.FnExactCyclesOf", spec := "fnExactCyclesOf", unfollowed := true, recurses := true, apart := false, narrowed := true }
def FnExactCyclesOfUptoSaid : Prop := fnExactCyclesOfUptoRow.holds Try.pinned (OpenSpec.upto fnExactCyclesOfSpec)

/-- 'laws.FnExactPermutationOfCycles', WHERE WHAT IT READS IS OF BULK AT MOST 1048576: true; the input reads as it did. -/
def fnExactPermutationOfCyclesUptoRow : OpenClaim := { program := "ytcgmencdadinbaa", sum := "945706dbf02e420a8078b61d2d26d6788ff550ed89882719f6439157b5d06c51", func := "loop.example/g00920/laws.FnExactPermutationOfCycles", spec := "fnExactPermutationOfCycles", apart := false, narrowed := true }
def FnExactPermutationOfCyclesUptoSaid : Prop := fnExactPermutationOfCyclesUptoRow.holds Try.pinned (OpenSpec.upto fnExactPermutationOfCyclesSpec)

/-- 'laws.FnExactCycleType', WHERE WHAT IT READS IS OF BULK AT MOST 1048576: true; the input reads as it did. -/
def fnExactCycleTypeUptoRow : OpenClaim := { program := "ytcgmencdadinbaa", sum := "945706dbf02e420a8078b61d2d26d6788ff550ed89882719f6439157b5d06c51", func := "loop.example/g00920/laws.FnExactCycleType", spec := "fnExactCycleType", unfollowed := true, recurses := true, apart := false, narrowed := true }
def FnExactCycleTypeUptoSaid : Prop := fnExactCycleTypeUptoRow.holds Try.pinned (OpenSpec.upto fnExactCycleTypeSpec)

/-- 'laws.FnExactOrderOfPermutation', WHERE WHAT IT READS IS OF BULK AT MOST 1048576: true; the input reads as it did. -/
def fnExactOrderOfPermutationUptoRow : OpenClaim := { program := "ytcgmencdadinbaa", sum := "945706dbf02e420a8078b61d2d26d6788ff550ed89882719f6439157b5d06c51", func := "loop.example/g00920/laws.FnExactOrderOfPermutation", spec := "fnExactOrderOfPermutation", unfollowed := true, recurses := true, apart := false, narrowed := true }
def FnExactOrderOfPermutationUptoSaid : Prop := fnExactOrderOfPermutationUptoRow.holds Try.pinned (OpenSpec.upto fnExactOrderOfPermutationSpec)

/-- 'laws.FnExactSignOf', WHERE WHAT IT READS IS OF BULK AT MOST 1048576: true; the input reads as it did. -/
def fnExactSignOfUptoRow : OpenClaim := { program := "ytcgmencdadinbaa", sum := "945706dbf02e420a8078b61d2d26d6788ff550ed89882719f6439157b5d06c51", func := "loop.example/g00920/laws.FnExactSignOf", spec := "fnExactSignOf", unfollowed := true, recurses := true, apart := false, narrowed := true }
def FnExactSignOfUptoSaid : Prop := fnExactSignOfUptoRow.holds Try.pinned (OpenSpec.upto fnExactSignOfSpec)

/-- 'laws.FnExactRankPermutation', WHERE WHAT IT READS IS OF BULK AT MOST 1048576: true; the input reads as it did. -/
def fnExactRankPermutationUptoRow : OpenClaim := { program := "ytcgmencdadinbaa", sum := "945706dbf02e420a8078b61d2d26d6788ff550ed89882719f6439157b5d06c51", func := "loop.example/g00920/laws.FnExactRankPermutation", spec := "fnExactRankPermutation", apart := false, narrowed := true }
def FnExactRankPermutationUptoSaid : Prop := fnExactRankPermutationUptoRow.holds Try.pinned (OpenSpec.upto fnExactRankPermutationSpec)

/-- 'laws.FnExactUnrankPermutation', WHERE WHAT IT READS IS OF BULK AT MOST 1048576: true; the input reads as it did. -/
def fnExactUnrankPermutationUptoRow : OpenClaim := { program := "ytcgmencdadinbaa", sum := "945706dbf02e420a8078b61d2d26d6788ff550ed89882719f6439157b5d06c51", func := "loop.example/g00920/laws.FnExactUnrankPermutation", spec := "fnExactUnrankPermutation", apart := false, narrowed := true }
def FnExactUnrankPermutationUptoSaid : Prop := fnExactUnrankPermutationUptoRow.holds Try.pinned (OpenSpec.upto fnExactUnrankPermutationSpec)

/-- 'laws.FnPermutations', WHERE WHAT IT READS IS OF BULK AT MOST 1048576: true; the input reads as it did. -/
def fnPermutationsUptoRow : OpenClaim := { program := "ytcgmencdadinbaa", sum := "945706dbf02e420a8078b61d2d26d6788ff550ed89882719f6439157b5d06c51", func := "loop.example/g00920/laws.FnPermutations", spec := "fnPermutations", unfollowed := true, recurses := true, apart := false, narrowed := true }
def FnPermutationsUptoSaid : Prop := fnPermutationsUptoRow.holds Try.pinned (OpenSpec.upto fnPermutationsSpec)

/-- 'laws.FnCycles', WHERE WHAT IT READS IS OF BULK AT MOST 1048576: true; the input reads as it did. -/
def fnCyclesUptoRow : OpenClaim := { program := "ytcgmencdadinbaa", sum := "945706dbf02e420a8078b61d2d26d6788ff550ed89882719f6439157b5d06c51", func := "loop.example/g00920/laws.FnCycles", spec := "fnCycles", unfollowed := true, recurses := true, apart := false, narrowed := true }
def FnCyclesUptoSaid : Prop := fnCyclesUptoRow.holds Try.pinned (OpenSpec.upto fnCyclesSpec)

end Rows
end Go.Proofs.Ytcgmencdadinbaa
