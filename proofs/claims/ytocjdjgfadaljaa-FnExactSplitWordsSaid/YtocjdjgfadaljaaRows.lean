/-
  No cell of these rows narrows 'for every input' (looked for: loops, veiled, ifaces, maps, wideKeys, modest, calm, conditions, laid).
  DERIVED. THE GIVEN ROWS OF THIS SEAT. 6 by the template 'for every input the law returns true; each argument reads behind the call as it read before'; 0 by the template 'total and deterministic' (their statements: YtocjdjgfadaljaaTotals.lean).
  GIVEN WITH THE SEED: the statements are not yours to turn. If you find one false, say at which input.
  Laid BY PROGRAM, IN A SANDBOX (cutbox-rows.mjs): the forced cells as the released guide's own fill.sh prints them over the translation caec37d4f0c98f85… (all of the seat's roots in one cut). By AI agents, Wed Nov 11 2026. No macro, syntax, notation, axiom, sorry.
-/
import Derived.Test.YtocjdjgfadaljaaChecked
import GoSem.Claim
import GoSem.ClaimJoined
import GoSem.ClaimMapViews
import Derived.JoinedTies
import Derived.KernelRfl
namespace Go.Proofs.Ytocjdjgfadaljaa
/- THE CELL 'sum', in the pinned program and in every row, IS THE sha256 OF THE DUMP (.gsa) THAT YtocjdjgfadaljaaProg.lean LOADS. Nothing in Lean hashes anything: it is a label: what it is worth is what the hold of that sum in a sandbox is worth. -/
noncomputable def Try.pinned : Pinned := { name := "ytocjdjgfadaljaa", sum := "caec37d4f0c98f85f7372f088211e4cc107dc16efb73e1c52a1ce2a23b675ffc", checked := Try.checked }
namespace Rows
def none {H : Type} : Left H := { results := [], args := [] }

/-- 'laws.FnRoots': WHATEVER THE INPUT: true; the input reads as it did. -/
def fnRootsSpec : ChangeSpec := { name := "fnRoots", fn := fun _ => fun
  | [d1, d2] => { results := [.lit (.bool true)], args := [d1, d2] }
  | _ => none }
def fnRootsRow : OpenClaim := { program := "ytocjdjgfadaljaa", sum := "caec37d4f0c98f85f7372f088211e4cc107dc16efb73e1c52a1ce2a23b675ffc", func := "loop.example/g00920/laws.FnRoots", spec := "fnRoots", unfollowed := true, recurses := true, apart := false }
def FnRootsSaid : Prop := fnRootsRow.holds Try.pinned (OpenSpec.ofChange fnRootsSpec)

/-- ITS FALSE NEIGHBOUR: 'it returns false'. Refute it at one input. -/
def fnRootsWrong : ChangeSpec := { name := "fnRoots", fn := fun _ => fun
  | [d1, d2] => { results := [.lit (.bool false)], args := [d1, d2] }
  | _ => none }
def FnRootsWrongFalsely : Prop := fnRootsRow.holds Try.pinned (OpenSpec.ofChange fnRootsWrong)

/-- 'laws.FnFactors': WHATEVER THE INPUT: true; the input reads as it did. -/
def fnFactorsSpec : ChangeSpec := { name := "fnFactors", fn := fun _ => fun
  | [d] => { results := [.lit (.bool true)], args := [d] }
  | _ => none }
def fnFactorsRow : OpenClaim := { program := "ytocjdjgfadaljaa", sum := "caec37d4f0c98f85f7372f088211e4cc107dc16efb73e1c52a1ce2a23b675ffc", func := "loop.example/g00920/laws.FnFactors", spec := "fnFactors", unfollowed := true, recurses := true, apart := false }
def FnFactorsSaid : Prop := fnFactorsRow.holds Try.pinned (OpenSpec.ofChange fnFactorsSpec)

/-- ITS FALSE NEIGHBOUR: 'it returns false'. Refute it at one input. -/
def fnFactorsWrong : ChangeSpec := { name := "fnFactors", fn := fun _ => fun
  | [d] => { results := [.lit (.bool false)], args := [d] }
  | _ => none }
def FnFactorsWrongFalsely : Prop := fnFactorsRow.holds Try.pinned (OpenSpec.ofChange fnFactorsWrong)

/-- 'laws.FnExactSplitWords': WHATEVER THE INPUT: true; the input reads as it did. -/
def fnExactSplitWordsSpec : ChangeSpec := { name := "fnExactSplitWords", fn := fun _ => fun
  | [d] => { results := [.lit (.bool true)], args := [d] }
  | _ => none }
def fnExactSplitWordsRow : OpenClaim := { program := "ytocjdjgfadaljaa", sum := "caec37d4f0c98f85f7372f088211e4cc107dc16efb73e1c52a1ce2a23b675ffc", func := "loop.example/g00920/laws.FnExactSplitWords", spec := "fnExactSplitWords", unfollowed := true, recurses := true, apart := false }
def FnExactSplitWordsSaid : Prop := fnExactSplitWordsRow.holds Try.pinned (OpenSpec.ofChange fnExactSplitWordsSpec)

/-- ITS FALSE NEIGHBOUR: 'it returns false'. Refute it at one input. -/
def fnExactSplitWordsWrong : ChangeSpec := { name := "fnExactSplitWords", fn := fun _ => fun
  | [d] => { results := [.lit (.bool false)], args := [d] }
  | _ => none }
def FnExactSplitWordsWrongFalsely : Prop := fnExactSplitWordsRow.holds Try.pinned (OpenSpec.ofChange fnExactSplitWordsWrong)

/-- 'laws.FnExactRankSubset': WHATEVER THE INPUT: true; the input reads as it did. -/
def fnExactRankSubsetSpec : ChangeSpec := { name := "fnExactRankSubset", fn := fun _ => fun
  | [d1, d2] => { results := [.lit (.bool true)], args := [d1, d2] }
  | _ => none }
def fnExactRankSubsetRow : OpenClaim := { program := "ytocjdjgfadaljaa", sum := "caec37d4f0c98f85f7372f088211e4cc107dc16efb73e1c52a1ce2a23b675ffc", func := "loop.example/g00920/laws.FnExactRankSubset", spec := "fnExactRankSubset", apart := false }
def FnExactRankSubsetSaid : Prop := fnExactRankSubsetRow.holds Try.pinned (OpenSpec.ofChange fnExactRankSubsetSpec)

/-- ITS FALSE NEIGHBOUR: 'it returns false'. Refute it at one input. -/
def fnExactRankSubsetWrong : ChangeSpec := { name := "fnExactRankSubset", fn := fun _ => fun
  | [d1, d2] => { results := [.lit (.bool false)], args := [d1, d2] }
  | _ => none }
def FnExactRankSubsetWrongFalsely : Prop := fnExactRankSubsetRow.holds Try.pinned (OpenSpec.ofChange fnExactRankSubsetWrong)

/-- 'laws.FnExactUnrankSubset': WHATEVER THE INPUT: true; the input reads as it did. -/
def fnExactUnrankSubsetSpec : ChangeSpec := { name := "fnExactUnrankSubset", fn := fun _ => fun
  | [d1, d2, d3] => { results := [.lit (.bool true)], args := [d1, d2, d3] }
  | _ => none }
def fnExactUnrankSubsetRow : OpenClaim := { program := "ytocjdjgfadaljaa", sum := "caec37d4f0c98f85f7372f088211e4cc107dc16efb73e1c52a1ce2a23b675ffc", func := "loop.example/g00920/laws.FnExactUnrankSubset", spec := "fnExactUnrankSubset", apart := false }
def FnExactUnrankSubsetSaid : Prop := fnExactUnrankSubsetRow.holds Try.pinned (OpenSpec.ofChange fnExactUnrankSubsetSpec)

/-- ITS FALSE NEIGHBOUR: 'it returns false'. Refute it at one input. -/
def fnExactUnrankSubsetWrong : ChangeSpec := { name := "fnExactUnrankSubset", fn := fun _ => fun
  | [d1, d2, d3] => { results := [.lit (.bool false)], args := [d1, d2, d3] }
  | _ => none }
def FnExactUnrankSubsetWrongFalsely : Prop := fnExactUnrankSubsetRow.holds Try.pinned (OpenSpec.ofChange fnExactUnrankSubsetWrong)

/-- 'laws.FnExactNextSubset': WHATEVER THE INPUT: true; the input reads as it did. -/
def fnExactNextSubsetSpec : ChangeSpec := { name := "fnExactNextSubset", fn := fun _ => fun
  | [d1, d2] => { results := [.lit (.bool true)], args := [d1, d2] }
  | _ => none }
def fnExactNextSubsetRow : OpenClaim := { program := "ytocjdjgfadaljaa", sum := "caec37d4f0c98f85f7372f088211e4cc107dc16efb73e1c52a1ce2a23b675ffc", func := "loop.example/g00920/laws.FnExactNextSubset", spec := "fnExactNextSubset", apart := false }
def FnExactNextSubsetSaid : Prop := fnExactNextSubsetRow.holds Try.pinned (OpenSpec.ofChange fnExactNextSubsetSpec)

/-- ITS FALSE NEIGHBOUR: 'it returns false'. Refute it at one input. -/
def fnExactNextSubsetWrong : ChangeSpec := { name := "fnExactNextSubset", fn := fun _ => fun
  | [d1, d2] => { results := [.lit (.bool false)], args := [d1, d2] }
  | _ => none }
def FnExactNextSubsetWrongFalsely : Prop := fnExactNextSubsetRow.holds Try.pinned (OpenSpec.ofChange fnExactNextSubsetWrong)

/- THE SECOND FORM. 'bulk': how many values and letters a reading holds, each counted each time it is reached (what is shared counts as often as it is met; a slice's spare places count too). A statement '..UptoSaid' is the law's where the arguments, and the package variables that the reading takes, are together of bulk at most 1048576: NARROWER than '..Said'. Prove '..Said' where nothing that the law and all that it calls make is longer than what came in: it says more and counts as full. Else prove '..UptoSaid'. A law counts once. -/
mutual
def uptoBulk {H : Type} : DataW H → Nat
  | .lit (.string bytes) => bytes.length + 1
  | .lit _ => 1
  | .nil => 1
  | .ptr d => uptoBulk d + 1
  | .slice elems spare => uptoBulkAll elems + uptoBulkAll spare + 1
  | .agg parts => uptoBulkAll parts + 1
  | .iface _ d => uptoBulk d + 1
  | .map entries => uptoBulkEntries entries + 1
  | .held _ => 1
def uptoBulkAll {H : Type} : List (DataW H) → Nat
  | [] => 0
  | d :: r => uptoBulk d + uptoBulkAll r
def uptoBulkEntries {H : Type} : List (Lit × DataW H) → Nat
  | [] => 0
  | x :: r => uptoBulkEntry x + uptoBulkEntries r
def uptoBulkEntry {H : Type} : Lit × DataW H → Nat
  | (.string bytes, d) => bytes.length + uptoBulk d + 1
  | (_, d) => uptoBulk d + 1
 end
def uptoSmall : (H : Type) → List (DataW H) → Bool := fun _ ds => decide (uptoBulkAll ds ≤ 1048576)
def OpenSpec.upto (s : _root_.Go.ChangeSpec) : _root_.Go.OpenSpec := { _root_.Go.OpenSpec.ofChange s with cond := some uptoSmall }

/-- 'laws.FnRoots', WHERE WHAT IT READS IS OF BULK AT MOST 1048576: true; the input reads as it did. -/
def fnRootsUptoRow : OpenClaim := { program := "ytocjdjgfadaljaa", sum := "caec37d4f0c98f85f7372f088211e4cc107dc16efb73e1c52a1ce2a23b675ffc", func := "loop.example/g00920/laws.FnRoots", spec := "fnRoots", unfollowed := true, recurses := true, apart := false, narrowed := true }
def FnRootsUptoSaid : Prop := fnRootsUptoRow.holds Try.pinned (OpenSpec.upto fnRootsSpec)

/-- 'laws.FnFactors', WHERE WHAT IT READS IS OF BULK AT MOST 1048576: true; the input reads as it did. -/
def fnFactorsUptoRow : OpenClaim := { program := "ytocjdjgfadaljaa", sum := "caec37d4f0c98f85f7372f088211e4cc107dc16efb73e1c52a1ce2a23b675ffc", func := "loop.example/g00920/laws.FnFactors", spec := "fnFactors", unfollowed := true, recurses := true, apart := false, narrowed := true }
def FnFactorsUptoSaid : Prop := fnFactorsUptoRow.holds Try.pinned (OpenSpec.upto fnFactorsSpec)

/-- 'laws.FnExactSplitWords', WHERE WHAT IT READS IS OF BULK AT MOST 1048576: true; the input reads as it did. -/
def fnExactSplitWordsUptoRow : OpenClaim := { program := "ytocjdjgfadaljaa", sum := "caec37d4f0c98f85f7372f088211e4cc107dc16efb73e1c52a1ce2a23b675ffc", func := "loop.example/g00920/laws.FnExactSplitWords", spec := "fnExactSplitWords", unfollowed := true, recurses := true, apart := false, narrowed := true }
def FnExactSplitWordsUptoSaid : Prop := fnExactSplitWordsUptoRow.holds Try.pinned (OpenSpec.upto fnExactSplitWordsSpec)

/-- 'laws.FnExactRankSubset', WHERE WHAT IT READS IS OF BULK AT MOST 1048576: true; the input reads as it did. -/
def fnExactRankSubsetUptoRow : OpenClaim := { program := "ytocjdjgfadaljaa", sum := "caec37d4f0c98f85f7372f088211e4cc107dc16efb73e1c52a1ce2a23b675ffc", func := "loop.example/g00920/laws.FnExactRankSubset", spec := "fnExactRankSubset", apart := false, narrowed := true }
def FnExactRankSubsetUptoSaid : Prop := fnExactRankSubsetUptoRow.holds Try.pinned (OpenSpec.upto fnExactRankSubsetSpec)

/-- 'laws.FnExactUnrankSubset', WHERE WHAT IT READS IS OF BULK AT MOST 1048576: true; the input reads as it did. -/
def fnExactUnrankSubsetUptoRow : OpenClaim := { program := "ytocjdjgfadaljaa", sum := "caec37d4f0c98f85f7372f088211e4cc107dc16efb73e1c52a1ce2a23b675ffc", func := "loop.example/g00920/laws.FnExactUnrankSubset", spec := "fnExactUnrankSubset", apart := false, narrowed := true }
def FnExactUnrankSubsetUptoSaid : Prop := fnExactUnrankSubsetUptoRow.holds Try.pinned (OpenSpec.upto fnExactUnrankSubsetSpec)

/-- 'laws.FnExactNextSubset', WHERE WHAT IT READS IS OF BULK AT MOST 1048576: true; the input reads as it did. -/
def fnExactNextSubsetUptoRow : OpenClaim := { program := "ytocjdjgfadaljaa", sum := "caec37d4f0c98f85f7372f088211e4cc107dc16efb73e1c52a1ce2a23b675ffc", func := "loop.example/g00920/laws.FnExactNextSubset", spec := "fnExactNextSubset", apart := false, narrowed := true }
def FnExactNextSubsetUptoSaid : Prop := fnExactNextSubsetUptoRow.holds Try.pinned (OpenSpec.upto fnExactNextSubsetSpec)

end Rows
end Go.Proofs.Ytocjdjgfadaljaa
