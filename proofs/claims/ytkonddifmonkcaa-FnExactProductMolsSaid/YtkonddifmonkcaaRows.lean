/-
  No cell of these rows narrows 'for every input' (looked for: loops, veiled, ifaces, maps, wideKeys, modest, calm, conditions, laid).
  DERIVED. THE GIVEN ROWS OF THIS SEAT. 8 by the template 'for every input the law returns true; each argument reads behind the call as it read before'; 0 by the template 'total and deterministic' (their statements: YtkonddifmonkcaaTotals.lean).
  GIVEN WITH THE SEED: the statements are not yours to turn. If you find one false, say at which input.
  Laid BY PROGRAM, IN A SANDBOX (cutbox-rows.mjs): the forced cells as the released guide's own fill.sh prints them over the translation 8011dc4f30b0d838… (all of the seat's roots in one cut). By AI agents, Wed Nov 11 2026. No macro, syntax, notation, axiom, sorry.
-/
import Derived.Test.YtkonddifmonkcaaChecked
import GoSem.Claim
import GoSem.ClaimJoined
import GoSem.ClaimMapViews
import Derived.JoinedTies
import Derived.KernelRfl
namespace Go.Proofs.Ytkonddifmonkcaa
/- THE CELL 'sum', in the pinned program and in every row, IS THE sha256 OF THE DUMP (.gsa) THAT YtkonddifmonkcaaProg.lean LOADS. Nothing in Lean hashes anything: it is a label: what it is worth is what the hold of that sum in a sandbox is worth. -/
noncomputable def Try.pinned : Pinned := { name := "ytkonddifmonkcaa", sum := "8011dc4f30b0d8382eccc633a3889040f6552dc31f16dd72b53df236f00d25b0", checked := Try.checked }
namespace Rows
def none {H : Type} : Left H := { results := [], args := [] }

/-- 'laws.FnExactOrthogonal': WHATEVER THE INPUT: true; the input reads as it did. -/
def fnExactOrthogonalSpec : ChangeSpec := { name := "fnExactOrthogonal", fn := fun _ => fun
  | [d1, d2] => { results := [.lit (.bool true)], args := [d1, d2] }
  | _ => none }
def fnExactOrthogonalRow : OpenClaim := { program := "ytkonddifmonkcaa", sum := "8011dc4f30b0d8382eccc633a3889040f6552dc31f16dd72b53df236f00d25b0", func := "loop.example/g00920/laws.FnExactOrthogonal", spec := "fnExactOrthogonal", unfollowed := true, recurses := true, apart := false }
def FnExactOrthogonalSaid : Prop := fnExactOrthogonalRow.holds Try.pinned (OpenSpec.ofChange fnExactOrthogonalSpec)

/-- ITS FALSE NEIGHBOUR: 'it returns false'. Refute it at one input. -/
def fnExactOrthogonalWrong : ChangeSpec := { name := "fnExactOrthogonal", fn := fun _ => fun
  | [d1, d2] => { results := [.lit (.bool false)], args := [d1, d2] }
  | _ => none }
def FnExactOrthogonalWrongFalsely : Prop := fnExactOrthogonalRow.holds Try.pinned (OpenSpec.ofChange fnExactOrthogonalWrong)

/-- 'laws.FnExactValidMols': WHATEVER THE INPUT: true; the input reads as it did. -/
def fnExactValidMolsSpec : ChangeSpec := { name := "fnExactValidMols", fn := fun _ => fun
  | [d] => { results := [.lit (.bool true)], args := [d] }
  | _ => none }
def fnExactValidMolsRow : OpenClaim := { program := "ytkonddifmonkcaa", sum := "8011dc4f30b0d8382eccc633a3889040f6552dc31f16dd72b53df236f00d25b0", func := "loop.example/g00920/laws.FnExactValidMols", spec := "fnExactValidMols", unfollowed := true, recurses := true, apart := false }
def FnExactValidMolsSaid : Prop := fnExactValidMolsRow.holds Try.pinned (OpenSpec.ofChange fnExactValidMolsSpec)

/-- ITS FALSE NEIGHBOUR: 'it returns false'. Refute it at one input. -/
def fnExactValidMolsWrong : ChangeSpec := { name := "fnExactValidMols", fn := fun _ => fun
  | [d] => { results := [.lit (.bool false)], args := [d] }
  | _ => none }
def FnExactValidMolsWrongFalsely : Prop := fnExactValidMolsRow.holds Try.pinned (OpenSpec.ofChange fnExactValidMolsWrong)

/-- 'laws.FnExactSuperpose': WHATEVER THE INPUT: true; the input reads as it did. -/
def fnExactSuperposeSpec : ChangeSpec := { name := "fnExactSuperpose", fn := fun _ => fun
  | [d1, d2] => { results := [.lit (.bool true)], args := [d1, d2] }
  | _ => none }
def fnExactSuperposeRow : OpenClaim := { program := "ytkonddifmonkcaa", sum := "8011dc4f30b0d8382eccc633a3889040f6552dc31f16dd72b53df236f00d25b0", func := "loop.example/g00920/laws.FnExactSuperpose", spec := "fnExactSuperpose", unfollowed := true, recurses := true, apart := false }
def FnExactSuperposeSaid : Prop := fnExactSuperposeRow.holds Try.pinned (OpenSpec.ofChange fnExactSuperposeSpec)

/-- ITS FALSE NEIGHBOUR: 'it returns false'. Refute it at one input. -/
def fnExactSuperposeWrong : ChangeSpec := { name := "fnExactSuperpose", fn := fun _ => fun
  | [d1, d2] => { results := [.lit (.bool false)], args := [d1, d2] }
  | _ => none }
def FnExactSuperposeWrongFalsely : Prop := fnExactSuperposeRow.holds Try.pinned (OpenSpec.ofChange fnExactSuperposeWrong)

/-- 'laws.FnExactProductMols': WHATEVER THE INPUT: true; the input reads as it did. -/
def fnExactProductMolsSpec : ChangeSpec := { name := "fnExactProductMols", fn := fun _ => fun
  | [d1, d2] => { results := [.lit (.bool true)], args := [d1, d2] }
  | _ => none }
def fnExactProductMolsRow : OpenClaim := { program := "ytkonddifmonkcaa", sum := "8011dc4f30b0d8382eccc633a3889040f6552dc31f16dd72b53df236f00d25b0", func := "loop.example/g00920/laws.FnExactProductMols", spec := "fnExactProductMols", unfollowed := true, recurses := true, apart := false }
def FnExactProductMolsSaid : Prop := fnExactProductMolsRow.holds Try.pinned (OpenSpec.ofChange fnExactProductMolsSpec)

/-- ITS FALSE NEIGHBOUR: 'it returns false'. Refute it at one input. -/
def fnExactProductMolsWrong : ChangeSpec := { name := "fnExactProductMols", fn := fun _ => fun
  | [d1, d2] => { results := [.lit (.bool false)], args := [d1, d2] }
  | _ => none }
def FnExactProductMolsWrongFalsely : Prop := fnExactProductMolsRow.holds Try.pinned (OpenSpec.ofChange fnExactProductMolsWrong)

/-- 'laws.FnExactIsTransversal': WHATEVER THE INPUT: true; the input reads as it did. -/
def fnExactIsTransversalSpec : ChangeSpec := { name := "fnExactIsTransversal", fn := fun _ => fun
  | [d1, d2] => { results := [.lit (.bool true)], args := [d1, d2] }
  | _ => none }
def fnExactIsTransversalRow : OpenClaim := { program := "ytkonddifmonkcaa", sum := "8011dc4f30b0d8382eccc633a3889040f6552dc31f16dd72b53df236f00d25b0", func := "loop.example/g00920/laws.FnExactIsTransversal", spec := "fnExactIsTransversal", unfollowed := true, recurses := true, apart := false }
def FnExactIsTransversalSaid : Prop := fnExactIsTransversalRow.holds Try.pinned (OpenSpec.ofChange fnExactIsTransversalSpec)

/-- ITS FALSE NEIGHBOUR: 'it returns false'. Refute it at one input. -/
def fnExactIsTransversalWrong : ChangeSpec := { name := "fnExactIsTransversal", fn := fun _ => fun
  | [d1, d2] => { results := [.lit (.bool false)], args := [d1, d2] }
  | _ => none }
def FnExactIsTransversalWrongFalsely : Prop := fnExactIsTransversalRow.holds Try.pinned (OpenSpec.ofChange fnExactIsTransversalWrong)

/-- 'laws.FnExactTransversalsOfMate': WHATEVER THE INPUT: true; the input reads as it did. -/
def fnExactTransversalsOfMateSpec : ChangeSpec := { name := "fnExactTransversalsOfMate", fn := fun _ => fun
  | [d1, d2] => { results := [.lit (.bool true)], args := [d1, d2] }
  | _ => none }
def fnExactTransversalsOfMateRow : OpenClaim := { program := "ytkonddifmonkcaa", sum := "8011dc4f30b0d8382eccc633a3889040f6552dc31f16dd72b53df236f00d25b0", func := "loop.example/g00920/laws.FnExactTransversalsOfMate", spec := "fnExactTransversalsOfMate", unfollowed := true, recurses := true, apart := false }
def FnExactTransversalsOfMateSaid : Prop := fnExactTransversalsOfMateRow.holds Try.pinned (OpenSpec.ofChange fnExactTransversalsOfMateSpec)

/-- ITS FALSE NEIGHBOUR: 'it returns false'. Refute it at one input. -/
def fnExactTransversalsOfMateWrong : ChangeSpec := { name := "fnExactTransversalsOfMate", fn := fun _ => fun
  | [d1, d2] => { results := [.lit (.bool false)], args := [d1, d2] }
  | _ => none }
def FnExactTransversalsOfMateWrongFalsely : Prop := fnExactTransversalsOfMateRow.holds Try.pinned (OpenSpec.ofChange fnExactTransversalsOfMateWrong)

/-- 'laws.FnExactProductSquare': WHATEVER THE INPUT: true; the input reads as it did. -/
def fnExactProductSquareSpec : ChangeSpec := { name := "fnExactProductSquare", fn := fun _ => fun
  | [d1, d2] => { results := [.lit (.bool true)], args := [d1, d2] }
  | _ => none }
def fnExactProductSquareRow : OpenClaim := { program := "ytkonddifmonkcaa", sum := "8011dc4f30b0d8382eccc633a3889040f6552dc31f16dd72b53df236f00d25b0", func := "loop.example/g00920/laws.FnExactProductSquare", spec := "fnExactProductSquare", unfollowed := true, recurses := true, apart := false }
def FnExactProductSquareSaid : Prop := fnExactProductSquareRow.holds Try.pinned (OpenSpec.ofChange fnExactProductSquareSpec)

/-- ITS FALSE NEIGHBOUR: 'it returns false'. Refute it at one input. -/
def fnExactProductSquareWrong : ChangeSpec := { name := "fnExactProductSquare", fn := fun _ => fun
  | [d1, d2] => { results := [.lit (.bool false)], args := [d1, d2] }
  | _ => none }
def FnExactProductSquareWrongFalsely : Prop := fnExactProductSquareRow.holds Try.pinned (OpenSpec.ofChange fnExactProductSquareWrong)

/-- 'laws.FnExactConjugate': WHATEVER THE INPUT: true; the input reads as it did. -/
def fnExactConjugateSpec : ChangeSpec := { name := "fnExactConjugate", fn := fun _ => fun
  | [d1, d2] => { results := [.lit (.bool true)], args := [d1, d2] }
  | _ => none }
def fnExactConjugateRow : OpenClaim := { program := "ytkonddifmonkcaa", sum := "8011dc4f30b0d8382eccc633a3889040f6552dc31f16dd72b53df236f00d25b0", func := "loop.example/g00920/laws.FnExactConjugate", spec := "fnExactConjugate", unfollowed := true, recurses := true, apart := false }
def FnExactConjugateSaid : Prop := fnExactConjugateRow.holds Try.pinned (OpenSpec.ofChange fnExactConjugateSpec)

/-- ITS FALSE NEIGHBOUR: 'it returns false'. Refute it at one input. -/
def fnExactConjugateWrong : ChangeSpec := { name := "fnExactConjugate", fn := fun _ => fun
  | [d1, d2] => { results := [.lit (.bool false)], args := [d1, d2] }
  | _ => none }
def FnExactConjugateWrongFalsely : Prop := fnExactConjugateRow.holds Try.pinned (OpenSpec.ofChange fnExactConjugateWrong)

/- THE SECOND FORM. 'bulk': how many values and letters a reading holds, each counted each time it is reached (what is shared counts as often as it is met; a slice's spare places count too). A statement '..UptoSaid' is the law's where the arguments, and the package variables that the reading takes, are together of bulk at most 1048576: NARROWER than '..Said'. Prove '..Said' where nothing that the law and all that it calls make is longer than what came in: it says more and counts as full. Else prove '..UptoSaid'. A law counts once. -/
mutual
def uptoBulk {H : Type} : DataW H → Nat
  | .lit (.string bytes) => bytes.length + 1
  | .lit _ => 1
  | .nil => 1
  | .ptr d => uptoBulk d + 1
  | .slice elems spare => uptoBulkAll elems + uptoBulkAll spare + 1
  | .agg parts => uptoBulkAll parts + 1
  | .iface _ d => uptoBulk d + 1
  | .map entries => uptoBulkEntries entries + 1
  | .held _ => 1
def uptoBulkAll {H : Type} : List (DataW H) → Nat
  | [] => 0
  | d :: r => uptoBulk d + uptoBulkAll r
def uptoBulkEntries {H : Type} : List (Lit × DataW H) → Nat
  | [] => 0
  | x :: r => uptoBulkEntry x + uptoBulkEntries r
def uptoBulkEntry {H : Type} : Lit × DataW H → Nat
  | (.string bytes, d) => bytes.length + uptoBulk d + 1
  | (_, d) => uptoBulk d + 1
 end
def uptoSmall : (H : Type) → List (DataW H) → Bool := fun _ ds => decide (uptoBulkAll ds ≤ 1048576)
def OpenSpec.upto (s : _root_.Go.ChangeSpec) : _root_.Go.OpenSpec := { _root_.Go.OpenSpec.ofChange s with cond := some uptoSmall }

/-- 'laws.FnExactOrthogonal', WHERE WHAT IT READS IS OF BULK AT MOST 1048576: true; the input reads as it did. -/
def fnExactOrthogonalUptoRow : OpenClaim := { program := "ytkonddifmonkcaa", sum := "8011dc4f30b0d8382eccc633a3889040f6552dc31f16dd72b53df236f00d25b0", func := "loop.example/g00920/laws.FnExactOrthogonal", spec := "fnExactOrthogonal", unfollowed := true, recurses := true, apart := false, narrowed := true }
def FnExactOrthogonalUptoSaid : Prop := fnExactOrthogonalUptoRow.holds Try.pinned (OpenSpec.upto fnExactOrthogonalSpec)

/-- 'laws.FnExactValidMols', WHERE WHAT IT READS IS OF BULK AT MOST 1048576: true; the input reads as it did. -/
def fnExactValidMolsUptoRow : OpenClaim := { program := "ytkonddifmonkcaa", sum := "8011dc4f30b0d8382eccc633a3889040f6552dc31f16dd72b53df236f00d25b0", func := "loop.example/g00920/laws.FnExactValidMols", spec := "fnExactValidMols", unfollowed := true, recurses := true, apart := false, narrowed := true }
def FnExactValidMolsUptoSaid : Prop := fnExactValidMolsUptoRow.holds Try.pinned (OpenSpec.upto fnExactValidMolsSpec)

/-- 'laws.FnExactSuperpose', WHERE WHAT IT READS IS OF BULK AT MOST 1048576: true; the input reads as it did. -/
def fnExactSuperposeUptoRow : OpenClaim := { program := "ytkonddifmonkcaa", sum := "8011dc4f30b0d8382eccc633a3889040f6552dc31f16dd72b53df236f00d25b0", func := "loop.example/g00920/laws.FnExactSuperpose", spec := "fnExactSuperpose", unfollowed := true, recurses := true, apart := false, narrowed := true }
def FnExactSuperposeUptoSaid : Prop := fnExactSuperposeUptoRow.holds Try.pinned (OpenSpec.upto fnExactSuperposeSpec)

/-- 'laws.FnExactProductMols', WHERE WHAT IT READS IS OF BULK AT MOST 1048576: true; the input reads as it did. -/
def fnExactProductMolsUptoRow : OpenClaim := { program := "ytkonddifmonkcaa", sum := "8011dc4f30b0d8382eccc633a3889040f6552dc31f16dd72b53df236f00d25b0", func := "loop.example/g00920/laws.FnExactProductMols", spec := "fnExactProductMols", unfollowed := true, recurses := true, apart := false, narrowed := true }
def FnExactProductMolsUptoSaid : Prop := fnExactProductMolsUptoRow.holds Try.pinned (OpenSpec.upto fnExactProductMolsSpec)

/-- 'laws.FnExactIsTransversal', WHERE WHAT IT READS IS OF BULK AT MOST 1048576: true; the input reads as it did. -/
def fnExactIsTransversalUptoRow : OpenClaim := { program := "ytkonddifmonkcaa", sum := "8011dc4f30b0d8382eccc633a3889040f6552dc31f16dd72b53df236f00d25b0", func := "loop.example/g00920/laws.FnExactIsTransversal", spec := "fnExactIsTransversal", unfollowed := true, recurses := true, apart := false, narrowed := true }
def FnExactIsTransversalUptoSaid : Prop := fnExactIsTransversalUptoRow.holds Try.pinned (OpenSpec.upto fnExactIsTransversalSpec)

/-- 'laws.FnExactTransversalsOfMate', WHERE WHAT IT READS IS OF BULK AT MOST 1048576: true; the input reads as it did. -/
def fnExactTransversalsOfMateUptoRow : OpenClaim := { program := "ytkonddifmonkcaa", sum := "8011dc4f30b0d8382eccc633a3889040f6552dc31f16dd72b53df236f00d25b0", func := "loop.example/g00920/laws.FnExactTransversalsOfMate", spec := "fnExactTransversalsOfMate", unfollowed := true, recurses := true, apart := false, narrowed := true }
def FnExactTransversalsOfMateUptoSaid : Prop := fnExactTransversalsOfMateUptoRow.holds Try.pinned (OpenSpec.upto fnExactTransversalsOfMateSpec)

/-- 'laws.FnExactProductSquare', WHERE WHAT IT READS IS OF BULK AT MOST 1048576: true; the input reads as it did. -/
def fnExactProductSquareUptoRow : OpenClaim := { program := "ytkonddifmonkcaa", sum := "8011dc4f30b0d8382eccc633a3889040f6552dc31f16dd72b53df236f00d25b0", func := "loop.example/g00920/laws.FnExactProductSquare", spec := "fnExactProductSquare", unfollowed := true, recurses := true, apart := false, narrowed := true }
def FnExactProductSquareUptoSaid : Prop := fnExactProductSquareUptoRow.holds Try.pinned (OpenSpec.upto fnExactProductSquareSpec)

/-- 'laws.FnExactConjugate', WHERE WHAT IT READS IS OF BULK AT MOST 1048576: true; the input reads as it did. -/
def fnExactConjugateUptoRow : OpenClaim := { program := "ytkonddifmonkcaa", sum := "8011dc4f30b0d8382eccc633a3889040f6552dc31f16dd72b53df236f00d25b0", func := "loop.example/g00920/laws.FnExactConjugate", spec := "fnExactConjugate", unfollowed := true, recurses := true, apart := false, narrowed := true }
def FnExactConjugateUptoSaid : Prop := fnExactConjugateUptoRow.holds Try.pinned (OpenSpec.upto fnExactConjugateSpec)

end Rows
end Go.Proofs.Ytkonddifmonkcaa
