/-
  No cell of these rows narrows 'for every input' (looked for: loops, veiled, ifaces, maps, wideKeys, modest, calm, conditions, laid).
  DERIVED. THE GIVEN ROWS OF THIS SEAT. 12 by the template 'for every input the law returns true; each argument reads behind the call as it read before'; 0 by the template 'total and deterministic' (their statements: YtkbkaphgieimoaaTotals.lean).
  GIVEN WITH THE SEED: the statements are not yours to turn. If you find one false, say at which input.
  Laid BY PROGRAM, IN A SANDBOX (cutbox-rows.mjs): the forced cells as the released guide's own fill.sh prints them over the translation 9a84ccec66a71bbe… (all of the seat's roots in one cut). By AI agents, Wed Nov 11 2026. No macro, syntax, notation, axiom, sorry.
-/
import Derived.Test.YtkbkaphgieimoaaChecked
import GoSem.Claim
import GoSem.ClaimJoined
import GoSem.ClaimMapViews
import Derived.JoinedTies
import Derived.KernelRfl
namespace Go.Proofs.Ytkbkaphgieimoaa
/- THE CELL 'sum', in the pinned program and in every row, IS THE sha256 OF THE DUMP (.gsa) THAT YtkbkaphgieimoaaProg.lean LOADS. Nothing in Lean hashes anything: it is a label: what it is worth is what the hold of that sum in a sandbox is worth. -/
noncomputable def Try.pinned : Pinned := { name := "ytkbkaphgieimoaa", sum := "9a84ccec66a71bbe437c9e8e6e2980c178c1452051e98d12a4f88be883ca410a", checked := Try.checked }
namespace Rows
def none {H : Type} : Left H := { results := [], args := [] }

/-- 'laws.FnIsotopes': WHATEVER THE INPUT: true; the input reads as it did. -/
def fnIsotopesSpec : ChangeSpec := { name := "fnIsotopes", fn := fun _ => fun
  | [d1, d2] => { results := [.lit (.bool true)], args := [d1, d2] }
  | _ => none }
def fnIsotopesRow : OpenClaim := { program := "ytkbkaphgieimoaa", sum := "9a84ccec66a71bbe437c9e8e6e2980c178c1452051e98d12a4f88be883ca410a", func := "loop.example/g00920/laws.FnIsotopes", spec := "fnIsotopes", unfollowed := true, recurses := true, apart := false }
def FnIsotopesSaid : Prop := fnIsotopesRow.holds Try.pinned (OpenSpec.ofChange fnIsotopesSpec)

/-- ITS FALSE NEIGHBOUR: 'it returns false'. Refute it at one input. -/
def fnIsotopesWrong : ChangeSpec := { name := "fnIsotopes", fn := fun _ => fun
  | [d1, d2] => { results := [.lit (.bool false)], args := [d1, d2] }
  | _ => none }
def FnIsotopesWrongFalsely : Prop := fnIsotopesRow.holds Try.pinned (OpenSpec.ofChange fnIsotopesWrong)

/-- 'laws.FnConjugates': WHATEVER THE INPUT: true; the input reads as it did. -/
def fnConjugatesSpec : ChangeSpec := { name := "fnConjugates", fn := fun _ => fun
  | [d1, d2] => { results := [.lit (.bool true)], args := [d1, d2] }
  | _ => none }
def fnConjugatesRow : OpenClaim := { program := "ytkbkaphgieimoaa", sum := "9a84ccec66a71bbe437c9e8e6e2980c178c1452051e98d12a4f88be883ca410a", func := "loop.example/g00920/laws.FnConjugates", spec := "fnConjugates", unfollowed := true, recurses := true, apart := false }
def FnConjugatesSaid : Prop := fnConjugatesRow.holds Try.pinned (OpenSpec.ofChange fnConjugatesSpec)

/-- ITS FALSE NEIGHBOUR: 'it returns false'. Refute it at one input. -/
def fnConjugatesWrong : ChangeSpec := { name := "fnConjugates", fn := fun _ => fun
  | [d1, d2] => { results := [.lit (.bool false)], args := [d1, d2] }
  | _ => none }
def FnConjugatesWrongFalsely : Prop := fnConjugatesRow.holds Try.pinned (OpenSpec.ofChange fnConjugatesWrong)

/-- 'laws.FnExactValidSquare': WHATEVER THE INPUT: true; the input reads as it did. -/
def fnExactValidSquareSpec : ChangeSpec := { name := "fnExactValidSquare", fn := fun _ => fun
  | [d] => { results := [.lit (.bool true)], args := [d] }
  | _ => none }
def fnExactValidSquareRow : OpenClaim := { program := "ytkbkaphgieimoaa", sum := "9a84ccec66a71bbe437c9e8e6e2980c178c1452051e98d12a4f88be883ca410a", func := "loop.example/g00920/laws.FnExactValidSquare", spec := "fnExactValidSquare", unfollowed := true, recurses := true, apart := false }
def FnExactValidSquareSaid : Prop := fnExactValidSquareRow.holds Try.pinned (OpenSpec.ofChange fnExactValidSquareSpec)

/-- ITS FALSE NEIGHBOUR: 'it returns false'. Refute it at one input. -/
def fnExactValidSquareWrong : ChangeSpec := { name := "fnExactValidSquare", fn := fun _ => fun
  | [d] => { results := [.lit (.bool false)], args := [d] }
  | _ => none }
def FnExactValidSquareWrongFalsely : Prop := fnExactValidSquareRow.holds Try.pinned (OpenSpec.ofChange fnExactValidSquareWrong)

/-- 'laws.FnExactSameSquare': WHATEVER THE INPUT: true; the input reads as it did. -/
def fnExactSameSquareSpec : ChangeSpec := { name := "fnExactSameSquare", fn := fun _ => fun
  | [d1, d2] => { results := [.lit (.bool true)], args := [d1, d2] }
  | _ => none }
def fnExactSameSquareRow : OpenClaim := { program := "ytkbkaphgieimoaa", sum := "9a84ccec66a71bbe437c9e8e6e2980c178c1452051e98d12a4f88be883ca410a", func := "loop.example/g00920/laws.FnExactSameSquare", spec := "fnExactSameSquare", unfollowed := true, recurses := true, apart := false }
def FnExactSameSquareSaid : Prop := fnExactSameSquareRow.holds Try.pinned (OpenSpec.ofChange fnExactSameSquareSpec)

/-- ITS FALSE NEIGHBOUR: 'it returns false'. Refute it at one input. -/
def fnExactSameSquareWrong : ChangeSpec := { name := "fnExactSameSquare", fn := fun _ => fun
  | [d1, d2] => { results := [.lit (.bool false)], args := [d1, d2] }
  | _ => none }
def FnExactSameSquareWrongFalsely : Prop := fnExactSameSquareRow.holds Try.pinned (OpenSpec.ofChange fnExactSameSquareWrong)

/-- 'laws.FnExactCyclicSquare': WHATEVER THE INPUT: true; the input reads as it did. -/
def fnExactCyclicSquareSpec : ChangeSpec := { name := "fnExactCyclicSquare", fn := fun _ => fun
  | [d] => { results := [.lit (.bool true)], args := [d] }
  | _ => none }
def fnExactCyclicSquareRow : OpenClaim := { program := "ytkbkaphgieimoaa", sum := "9a84ccec66a71bbe437c9e8e6e2980c178c1452051e98d12a4f88be883ca410a", func := "loop.example/g00920/laws.FnExactCyclicSquare", spec := "fnExactCyclicSquare", unfollowed := true, recurses := true, apart := false }
def FnExactCyclicSquareSaid : Prop := fnExactCyclicSquareRow.holds Try.pinned (OpenSpec.ofChange fnExactCyclicSquareSpec)

/-- ITS FALSE NEIGHBOUR: 'it returns false'. Refute it at one input. -/
def fnExactCyclicSquareWrong : ChangeSpec := { name := "fnExactCyclicSquare", fn := fun _ => fun
  | [d] => { results := [.lit (.bool false)], args := [d] }
  | _ => none }
def FnExactCyclicSquareWrongFalsely : Prop := fnExactCyclicSquareRow.holds Try.pinned (OpenSpec.ofChange fnExactCyclicSquareWrong)

/-- 'laws.FnExactProductSquare': WHATEVER THE INPUT: true; the input reads as it did. -/
def fnExactProductSquareSpec : ChangeSpec := { name := "fnExactProductSquare", fn := fun _ => fun
  | [d1, d2] => { results := [.lit (.bool true)], args := [d1, d2] }
  | _ => none }
def fnExactProductSquareRow : OpenClaim := { program := "ytkbkaphgieimoaa", sum := "9a84ccec66a71bbe437c9e8e6e2980c178c1452051e98d12a4f88be883ca410a", func := "loop.example/g00920/laws.FnExactProductSquare", spec := "fnExactProductSquare", unfollowed := true, recurses := true, apart := false }
def FnExactProductSquareSaid : Prop := fnExactProductSquareRow.holds Try.pinned (OpenSpec.ofChange fnExactProductSquareSpec)

/-- ITS FALSE NEIGHBOUR: 'it returns false'. Refute it at one input. -/
def fnExactProductSquareWrong : ChangeSpec := { name := "fnExactProductSquare", fn := fun _ => fun
  | [d1, d2] => { results := [.lit (.bool false)], args := [d1, d2] }
  | _ => none }
def FnExactProductSquareWrongFalsely : Prop := fnExactProductSquareRow.holds Try.pinned (OpenSpec.ofChange fnExactProductSquareWrong)

/-- 'laws.FnExactConjugate': WHATEVER THE INPUT: true; the input reads as it did. -/
def fnExactConjugateSpec : ChangeSpec := { name := "fnExactConjugate", fn := fun _ => fun
  | [d1, d2] => { results := [.lit (.bool true)], args := [d1, d2] }
  | _ => none }
def fnExactConjugateRow : OpenClaim := { program := "ytkbkaphgieimoaa", sum := "9a84ccec66a71bbe437c9e8e6e2980c178c1452051e98d12a4f88be883ca410a", func := "loop.example/g00920/laws.FnExactConjugate", spec := "fnExactConjugate", unfollowed := true, recurses := true, apart := false }
def FnExactConjugateSaid : Prop := fnExactConjugateRow.holds Try.pinned (OpenSpec.ofChange fnExactConjugateSpec)

/-- ITS FALSE NEIGHBOUR: 'it returns false'. Refute it at one input. -/
def fnExactConjugateWrong : ChangeSpec := { name := "fnExactConjugate", fn := fun _ => fun
  | [d1, d2] => { results := [.lit (.bool false)], args := [d1, d2] }
  | _ => none }
def FnExactConjugateWrongFalsely : Prop := fnExactConjugateRow.holds Try.pinned (OpenSpec.ofChange fnExactConjugateWrong)

/-- 'laws.FnExactIsotope': WHATEVER THE INPUT: true; the input reads as it did. -/
def fnExactIsotopeSpec : ChangeSpec := { name := "fnExactIsotope", fn := fun _ => fun
  | [d1, d2, d3, d4] => { results := [.lit (.bool true)], args := [d1, d2, d3, d4] }
  | _ => none }
def fnExactIsotopeRow : OpenClaim := { program := "ytkbkaphgieimoaa", sum := "9a84ccec66a71bbe437c9e8e6e2980c178c1452051e98d12a4f88be883ca410a", func := "loop.example/g00920/laws.FnExactIsotope", spec := "fnExactIsotope", unfollowed := true, recurses := true, apart := false }
def FnExactIsotopeSaid : Prop := fnExactIsotopeRow.holds Try.pinned (OpenSpec.ofChange fnExactIsotopeSpec)

/-- ITS FALSE NEIGHBOUR: 'it returns false'. Refute it at one input. -/
def fnExactIsotopeWrong : ChangeSpec := { name := "fnExactIsotope", fn := fun _ => fun
  | [d1, d2, d3, d4] => { results := [.lit (.bool false)], args := [d1, d2, d3, d4] }
  | _ => none }
def FnExactIsotopeWrongFalsely : Prop := fnExactIsotopeRow.holds Try.pinned (OpenSpec.ofChange fnExactIsotopeWrong)

/-- 'laws.FnExactIsReduced': WHATEVER THE INPUT: true; the input reads as it did. -/
def fnExactIsReducedSpec : ChangeSpec := { name := "fnExactIsReduced", fn := fun _ => fun
  | [d] => { results := [.lit (.bool true)], args := [d] }
  | _ => none }
def fnExactIsReducedRow : OpenClaim := { program := "ytkbkaphgieimoaa", sum := "9a84ccec66a71bbe437c9e8e6e2980c178c1452051e98d12a4f88be883ca410a", func := "loop.example/g00920/laws.FnExactIsReduced", spec := "fnExactIsReduced", unfollowed := true, recurses := true, apart := false }
def FnExactIsReducedSaid : Prop := fnExactIsReducedRow.holds Try.pinned (OpenSpec.ofChange fnExactIsReducedSpec)

/-- ITS FALSE NEIGHBOUR: 'it returns false'. Refute it at one input. -/
def fnExactIsReducedWrong : ChangeSpec := { name := "fnExactIsReduced", fn := fun _ => fun
  | [d] => { results := [.lit (.bool false)], args := [d] }
  | _ => none }
def FnExactIsReducedWrongFalsely : Prop := fnExactIsReducedRow.holds Try.pinned (OpenSpec.ofChange fnExactIsReducedWrong)

/-- 'laws.FnExactReducedSquare': WHATEVER THE INPUT: true; the input reads as it did. -/
def fnExactReducedSquareSpec : ChangeSpec := { name := "fnExactReducedSquare", fn := fun _ => fun
  | [d] => { results := [.lit (.bool true)], args := [d] }
  | _ => none }
def fnExactReducedSquareRow : OpenClaim := { program := "ytkbkaphgieimoaa", sum := "9a84ccec66a71bbe437c9e8e6e2980c178c1452051e98d12a4f88be883ca410a", func := "loop.example/g00920/laws.FnExactReducedSquare", spec := "fnExactReducedSquare", unfollowed := true, recurses := true, apart := false }
def FnExactReducedSquareSaid : Prop := fnExactReducedSquareRow.holds Try.pinned (OpenSpec.ofChange fnExactReducedSquareSpec)

/-- ITS FALSE NEIGHBOUR: 'it returns false'. Refute it at one input. -/
def fnExactReducedSquareWrong : ChangeSpec := { name := "fnExactReducedSquare", fn := fun _ => fun
  | [d] => { results := [.lit (.bool false)], args := [d] }
  | _ => none }
def FnExactReducedSquareWrongFalsely : Prop := fnExactReducedSquareRow.holds Try.pinned (OpenSpec.ofChange fnExactReducedSquareWrong)

/-- 'laws.FnExactSymbolColumns': WHATEVER THE INPUT: true; the input reads as it did. -/
def fnExactSymbolColumnsSpec : ChangeSpec := { name := "fnExactSymbolColumns", fn := fun _ => fun
  | [d1, d2] => { results := [.lit (.bool true)], args := [d1, d2] }
  | _ => none }
def fnExactSymbolColumnsRow : OpenClaim := { program := "ytkbkaphgieimoaa", sum := "9a84ccec66a71bbe437c9e8e6e2980c178c1452051e98d12a4f88be883ca410a", func := "loop.example/g00920/laws.FnExactSymbolColumns", spec := "fnExactSymbolColumns", unfollowed := true, recurses := true, apart := false }
def FnExactSymbolColumnsSaid : Prop := fnExactSymbolColumnsRow.holds Try.pinned (OpenSpec.ofChange fnExactSymbolColumnsSpec)

/-- ITS FALSE NEIGHBOUR: 'it returns false'. Refute it at one input. -/
def fnExactSymbolColumnsWrong : ChangeSpec := { name := "fnExactSymbolColumns", fn := fun _ => fun
  | [d1, d2] => { results := [.lit (.bool false)], args := [d1, d2] }
  | _ => none }
def FnExactSymbolColumnsWrongFalsely : Prop := fnExactSymbolColumnsRow.holds Try.pinned (OpenSpec.ofChange fnExactSymbolColumnsWrong)

/-- 'laws.FnExactReadSquare': WHATEVER THE INPUT: true; the input reads as it did. -/
def fnExactReadSquareSpec : ChangeSpec := { name := "fnExactReadSquare", fn := fun _ => fun
  | [d] => { results := [.lit (.bool true)], args := [d] }
  | _ => none }
def fnExactReadSquareRow : OpenClaim := { program := "ytkbkaphgieimoaa", sum := "9a84ccec66a71bbe437c9e8e6e2980c178c1452051e98d12a4f88be883ca410a", func := "loop.example/g00920/laws.FnExactReadSquare", spec := "fnExactReadSquare", unfollowed := true, recurses := true, apart := false }
def FnExactReadSquareSaid : Prop := fnExactReadSquareRow.holds Try.pinned (OpenSpec.ofChange fnExactReadSquareSpec)

/-- ITS FALSE NEIGHBOUR: 'it returns false'. Refute it at one input. -/
def fnExactReadSquareWrong : ChangeSpec := { name := "fnExactReadSquare", fn := fun _ => fun
  | [d] => { results := [.lit (.bool false)], args := [d] }
  | _ => none }
def FnExactReadSquareWrongFalsely : Prop := fnExactReadSquareRow.holds Try.pinned (OpenSpec.ofChange fnExactReadSquareWrong)

/- THE SECOND FORM. 'bulk': how many values and letters a reading holds, each counted each time it is reached (what is shared counts as often as it is met; a slice's spare places count too). A statement '..UptoSaid' is the law's where the arguments, and the package variables that the reading takes, are together of bulk at most 1048576: NARROWER than '..Said'. Prove '..Said' where nothing that the law and all that it calls make is longer than what came in: it says more and counts as full. Else prove '..UptoSaid'. A law counts once. -/
mutual
def uptoBulk {H : Type} : DataW H → Nat
  | .lit (.string bytes) => bytes.length + 1
  | .lit _ => 1
  | .nil => 1
  | .ptr d => uptoBulk d + 1
  | .slice elems spare => uptoBulkAll elems + uptoBulkAll spare + 1
  | .agg parts => uptoBulkAll parts + 1
  | .iface _ d => uptoBulk d + 1
  | .map entries => uptoBulkEntries entries + 1
  | .held _ => 1
def uptoBulkAll {H : Type} : List (DataW H) → Nat
  | [] => 0
  | d :: r => uptoBulk d + uptoBulkAll r
def uptoBulkEntries {H : Type} : List (Lit × DataW H) → Nat
  | [] => 0
  | x :: r => uptoBulkEntry x + uptoBulkEntries r
def uptoBulkEntry {H : Type} : Lit × DataW H → Nat
  | (.string bytes, d) => bytes.length + uptoBulk d + 1
  | (_, d) => uptoBulk d + 1
 end
def uptoSmall : (H : Type) → List (DataW H) → Bool := fun _ ds => decide (uptoBulkAll ds ≤ 1048576)
def OpenSpec.upto (s : _root_.Go.ChangeSpec) : _root_.Go.OpenSpec := { _root_.Go.OpenSpec.ofChange s with cond := some uptoSmall }

/-- 'laws.FnIsotopes', WHERE WHAT IT READS IS OF BULK AT MOST 1048576: true; the input reads as it did. -/
def fnIsotopesUptoRow : OpenClaim := { program := "ytkbkaphgieimoaa", sum := "9a84ccec66a71bbe437c9e8e6e2980c178c1452051e98d12a4f88be883ca410a", func := "loop.example/g00920/laws.FnIsotopes", spec := "fnIsotopes", unfollowed := true, recurses := true, apart := false, narrowed := true }
def FnIsotopesUptoSaid : Prop := fnIsotopesUptoRow.holds Try.pinned (OpenSpec.upto fnIsotopesSpec)

/-- 'laws.FnConjugates', WHERE WHAT IT READS IS OF BULK AT MOST 1048576: true; the input reads as it did. -/
def fnConjugatesUptoRow : OpenClaim := { program := "ytkbkaphgieimoaa", sum := "9a84ccec66a71bbe437c9e8e6e2980c178c1452051e98d12a4f88be883ca410a", func := "loop.example/g00920/laws.FnConjugates", spec := "fnConjugates", unfollowed := true, recurses := true, apart := false, narrowed := true }
def FnConjugatesUptoSaid : Prop := fnConjugatesUptoRow.holds Try.pinned (OpenSpec.upto fnConjugatesSpec)

/-- 'laws.FnExactValidSquare', WHERE WHAT IT READS IS OF BULK AT MOST 1048576: true; the input reads as it did. -/
def fnExactValidSquareUptoRow : OpenClaim := { program := "ytkbkaphgieimoaa", sum := "9a84ccec66a71bbe437c9e8e6e2980c178c1452051e98d12a4f88be883ca410a", func := "loop.example/g00920/laws.FnExactValidSquare", spec := "fnExactValidSquare", unfollowed := true, recurses := true, apart := false, narrowed := true }
def FnExactValidSquareUptoSaid : Prop := fnExactValidSquareUptoRow.holds Try.pinned (OpenSpec.upto fnExactValidSquareSpec)

/-- 'laws.FnExactSameSquare', WHERE WHAT IT READS IS OF BULK AT MOST 1048576: true; the input reads as it did. -/
def fnExactSameSquareUptoRow : OpenClaim := { program := "ytkbkaphgieimoaa", sum := "9a84ccec66a71bbe437c9e8e6e2980c178c1452051e98d12a4f88be883ca410a", func := "loop.example/g00920/laws.FnExactSameSquare", spec := "fnExactSameSquare", unfollowed := true, recurses := true, apart := false, narrowed := true }
def FnExactSameSquareUptoSaid : Prop := fnExactSameSquareUptoRow.holds Try.pinned (OpenSpec.upto fnExactSameSquareSpec)

/-- 'laws.FnExactCyclicSquare', WHERE WHAT IT READS IS OF BULK AT MOST 1048576: true; the input reads as it did. -/
def fnExactCyclicSquareUptoRow : OpenClaim := { program := "ytkbkaphgieimoaa", sum := "9a84ccec66a71bbe437c9e8e6e2980c178c1452051e98d12a4f88be883ca410a", func := "loop.example/g00920/laws.FnExactCyclicSquare", spec := "fnExactCyclicSquare", unfollowed := true, recurses := true, apart := false, narrowed := true }
def FnExactCyclicSquareUptoSaid : Prop := fnExactCyclicSquareUptoRow.holds Try.pinned (OpenSpec.upto fnExactCyclicSquareSpec)

/-- 'laws.FnExactProductSquare', WHERE WHAT IT READS IS OF BULK AT MOST 1048576: true; the input reads as it did. -/
def fnExactProductSquareUptoRow : OpenClaim := { program := "ytkbkaphgieimoaa", sum := "9a84ccec66a71bbe437c9e8e6e2980c178c1452051e98d12a4f88be883ca410a", func := "loop.example/g00920/laws.FnExactProductSquare", spec := "fnExactProductSquare", unfollowed := true, recurses := true, apart := false, narrowed := true }
def FnExactProductSquareUptoSaid : Prop := fnExactProductSquareUptoRow.holds Try.pinned (OpenSpec.upto fnExactProductSquareSpec)

/-- 'laws.FnExactConjugate', WHERE WHAT IT READS IS OF BULK AT MOST 1048576: true; the input reads as it did. -/
def fnExactConjugateUptoRow : OpenClaim := { program := "ytkbkaphgieimoaa", sum := "9a84ccec66a71bbe437c9e8e6e2980c178c1452051e98d12a4f88be883ca410a", func := "loop.example/g00920/laws.FnExactConjugate", spec := "fnExactConjugate", unfollowed := true, recurses := true, apart := false, narrowed := true }
def FnExactConjugateUptoSaid : Prop := fnExactConjugateUptoRow.holds Try.pinned (OpenSpec.upto fnExactConjugateSpec)

/-- 'laws.FnExactIsotope', WHERE WHAT IT READS IS OF BULK AT MOST 1048576: true; the input reads as it did. -/
def fnExactIsotopeUptoRow : OpenClaim := { program := "ytkbkaphgieimoaa", sum := "9a84ccec66a71bbe437c9e8e6e2980c178c1452051e98d12a4f88be883ca410a", func := "loop.example/g00920/laws.FnExactIsotope", spec := "fnExactIsotope", unfollowed := true, recurses := true, apart := false, narrowed := true }
def FnExactIsotopeUptoSaid : Prop := fnExactIsotopeUptoRow.holds Try.pinned (OpenSpec.upto fnExactIsotopeSpec)

/-- 'laws.FnExactIsReduced', WHERE WHAT IT READS IS OF BULK AT MOST 1048576: true; the input reads as it did. -/
def fnExactIsReducedUptoRow : OpenClaim := { program := "ytkbkaphgieimoaa", sum := "9a84ccec66a71bbe437c9e8e6e2980c178c1452051e98d12a4f88be883ca410a", func := "loop.example/g00920/laws.FnExactIsReduced", spec := "fnExactIsReduced", unfollowed := true, recurses := true, apart := false, narrowed := true }
def FnExactIsReducedUptoSaid : Prop := fnExactIsReducedUptoRow.holds Try.pinned (OpenSpec.upto fnExactIsReducedSpec)

/-- 'laws.FnExactReducedSquare', WHERE WHAT IT READS IS OF BULK AT MOST 1048576: true; the input reads as it did. -/
def fnExactReducedSquareUptoRow : OpenClaim := { program := "ytkbkaphgieimoaa", sum := "9a84ccec66a71bbe437c9e8e6e2980c178c1452051e98d12a4f88be883ca410a", func := "loop.example/g00920/laws.FnExactReducedSquare", spec := "fnExactReducedSquare", unfollowed := true, recurses := true, apart := false, narrowed := true }
def FnExactReducedSquareUptoSaid : Prop := fnExactReducedSquareUptoRow.holds Try.pinned (OpenSpec.upto fnExactReducedSquareSpec)

/-- 'laws.FnExactSymbolColumns', WHERE WHAT IT READS IS OF BULK AT MOST 1048576: true; the input reads as it did. -/
def fnExactSymbolColumnsUptoRow : OpenClaim := { program := "ytkbkaphgieimoaa", sum := "9a84ccec66a71bbe437c9e8e6e2980c178c1452051e98d12a4f88be883ca410a", func := "loop.example/g00920/laws.FnExactSymbolColumns", spec := "fnExactSymbolColumns", unfollowed := true, recurses := true, apart := false, narrowed := true }
def FnExactSymbolColumnsUptoSaid : Prop := fnExactSymbolColumnsUptoRow.holds Try.pinned (OpenSpec.upto fnExactSymbolColumnsSpec)

/-- 'laws.FnExactReadSquare', WHERE WHAT IT READS IS OF BULK AT MOST 1048576: true; the input reads as it did. -/
def fnExactReadSquareUptoRow : OpenClaim := { program := "ytkbkaphgieimoaa", sum := "9a84ccec66a71bbe437c9e8e6e2980c178c1452051e98d12a4f88be883ca410a", func := "loop.example/g00920/laws.FnExactReadSquare", spec := "fnExactReadSquare", unfollowed := true, recurses := true, apart := false, narrowed := true }
def FnExactReadSquareUptoSaid : Prop := fnExactReadSquareUptoRow.holds Try.pinned (OpenSpec.upto fnExactReadSquareSpec)

end Rows
end Go.Proofs.Ytkbkaphgieimoaa
