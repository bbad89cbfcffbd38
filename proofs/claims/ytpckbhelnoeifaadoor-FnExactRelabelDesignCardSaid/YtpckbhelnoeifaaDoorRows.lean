/-
  NARROWER THAN 'FOR EVERY INPUT', by the rows' own cells (each row's printed sentence says how): FnExactParametersOf: laid · FnExactSortDesign: laid · FnExactComplementDesign: laid · FnExactDualDesign: laid · FnExactDerivedDesign: laid · FnExactResidualDesign: laid · FnExactSumDesigns: laid · FnExactRelabelDesign: laid · FnExactDesignOfMatrix: laid.
  DERIVED. THE GIVEN ROWS OF THIS SEAT. 9 by the template 'for every input the law returns true; each argument reads behind the call as it read before'; 0 by the template 'total and deterministic' (their statements: YtpckbhelnoeifaaDoorTotals.lean).
  GIVEN WITH THE SEED: the statements are not yours to turn. If you find one false, say at which input.
  Laid BY PROGRAM, IN A SANDBOX (cutbox-rows.mjs): the forced cells as the released guide's own fill.sh prints them over the translation b025aa5780fd2fe9… (all of the seat's roots in one cut). By AI agents, Wed Nov 11 2026. No macro, syntax, notation, axiom, sorry.
-/
import Derived.Test.YtpckbhelnoeifaaDoorChecked
import GoSem.Claim
import GoSem.ClaimJoined
import GoSem.ClaimMapViews
import Derived.JoinedTies
import Derived.KernelRfl
namespace Go.Proofs.YtpckbhelnoeifaaDoor
/- THE CELL 'sum', in the pinned program and in every row, IS THE sha256 OF THE DUMP (.gsa) THAT YtpckbhelnoeifaaDoorProg.lean LOADS. Nothing in Lean hashes anything: it is a label: what it is worth is what the hold of that sum in a sandbox is worth. -/
noncomputable def Tryd.pinned : Pinned := { name := "ytpckbhelnoeifaadoor", sum := "b025aa5780fd2fe95658e69ea67b575e5ff3079153101ebc4bb7a59ba7ccf4c8", checked := Tryd.checked }
namespace Rows
def none {H : Type} : Left H := { results := [], args := [] }

/- WHAT THE LISTED PACKAGE-LEVEL VARIABLES READ AS WHEN THE CALL BEGINS. Each datum BY PROGRAM (the guide's laid-datum.mjs) off the statement by which the dump's own 'gosem.cut.vars' lays the variable. In a bare row this is a premise. The card (YtpckbhelnoeifaaDoorCards.lean) ties it to the program's text. -/
def laid_math_bits_deBruijn32tab {H : Type} : DataW H := .agg [.lit (.int .u8 0), .lit (.int .u8 1), .lit (.int .u8 28), .lit (.int .u8 2), .lit (.int .u8 29), .lit (.int .u8 14), .lit (.int .u8 24), .lit (.int .u8 3), .lit (.int .u8 30), .lit (.int .u8 22), .lit (.int .u8 20), .lit (.int .u8 15), .lit (.int .u8 25), .lit (.int .u8 17), .lit (.int .u8 4), .lit (.int .u8 8), .lit (.int .u8 31), .lit (.int .u8 27), .lit (.int .u8 13), .lit (.int .u8 23), .lit (.int .u8 21), .lit (.int .u8 19), .lit (.int .u8 16), .lit (.int .u8 7), .lit (.int .u8 26), .lit (.int .u8 12), .lit (.int .u8 18), .lit (.int .u8 6), .lit (.int .u8 11), .lit (.int .u8 5), .lit (.int .u8 10), .lit (.int .u8 9)]

/-- 'laws.FnExactParametersOf': WHATEVER THE INPUT: true; the input reads as it did. -/
def fnExactParametersOfSpec : ChangeSpec := { name := "fnExactParametersOf", fn := fun _ => fun
  | [d] => { results := [.lit (.bool true)], args := [d] }
  | _ => none }
def fnExactParametersOfRow : OpenClaim := { program := "ytpckbhelnoeifaadoor", sum := "b025aa5780fd2fe95658e69ea67b575e5ff3079153101ebc4bb7a59ba7ccf4c8", func := "loop.example/g00920/laws.FnExactParametersOf", spec := "fnExactParametersOf", inPlace := ["internal/reflectlite.ValueOf", "(internal/reflectlite.Value).Len"], unfollowed := true, recurses := true, named := ["math/bits.deBruijn32tab"], apart := false, laid := [("math/bits.deBruijn32tab", laid_math_bits_deBruijn32tab)] }
def FnExactParametersOfSaid : Prop := fnExactParametersOfRow.holds Tryd.pinned (OpenSpec.ofChange fnExactParametersOfSpec)

/-- ITS FALSE NEIGHBOUR: 'it returns false'. Refute it at one input. -/
def fnExactParametersOfWrong : ChangeSpec := { name := "fnExactParametersOf", fn := fun _ => fun
  | [d] => { results := [.lit (.bool false)], args := [d] }
  | _ => none }
def FnExactParametersOfWrongFalsely : Prop := fnExactParametersOfRow.holds Tryd.pinned (OpenSpec.ofChange fnExactParametersOfWrong)

/-- 'laws.FnExactSortDesign': WHATEVER THE INPUT: true; the input reads as it did. -/
def fnExactSortDesignSpec : ChangeSpec := { name := "fnExactSortDesign", fn := fun _ => fun
  | [d1, d2] => { results := [.lit (.bool true)], args := [d1, d2] }
  | _ => none }
def fnExactSortDesignRow : OpenClaim := { program := "ytpckbhelnoeifaadoor", sum := "b025aa5780fd2fe95658e69ea67b575e5ff3079153101ebc4bb7a59ba7ccf4c8", func := "loop.example/g00920/laws.FnExactSortDesign", spec := "fnExactSortDesign", inPlace := ["internal/reflectlite.ValueOf", "internal/reflectlite.Swapper", "(internal/reflectlite.Value).Len"], unfollowed := true, recurses := true, named := ["math/bits.deBruijn32tab"], apart := false, laid := [("math/bits.deBruijn32tab", laid_math_bits_deBruijn32tab)] }
def FnExactSortDesignSaid : Prop := fnExactSortDesignRow.holds Tryd.pinned (OpenSpec.ofChange fnExactSortDesignSpec)

/-- ITS FALSE NEIGHBOUR: 'it returns false'. Refute it at one input. -/
def fnExactSortDesignWrong : ChangeSpec := { name := "fnExactSortDesign", fn := fun _ => fun
  | [d1, d2] => { results := [.lit (.bool false)], args := [d1, d2] }
  | _ => none }
def FnExactSortDesignWrongFalsely : Prop := fnExactSortDesignRow.holds Tryd.pinned (OpenSpec.ofChange fnExactSortDesignWrong)

/-- 'laws.FnExactComplementDesign': WHATEVER THE INPUT: true; the input reads as it did. -/
def fnExactComplementDesignSpec : ChangeSpec := { name := "fnExactComplementDesign", fn := fun _ => fun
  | [d] => { results := [.lit (.bool true)], args := [d] }
  | _ => none }
def fnExactComplementDesignRow : OpenClaim := { program := "ytpckbhelnoeifaadoor", sum := "b025aa5780fd2fe95658e69ea67b575e5ff3079153101ebc4bb7a59ba7ccf4c8", func := "loop.example/g00920/laws.FnExactComplementDesign", spec := "fnExactComplementDesign", inPlace := ["internal/reflectlite.ValueOf", "(internal/reflectlite.Value).Len", "internal/reflectlite.Swapper"], unfollowed := true, recurses := true, named := ["math/bits.deBruijn32tab"], apart := false, laid := [("math/bits.deBruijn32tab", laid_math_bits_deBruijn32tab)] }
def FnExactComplementDesignSaid : Prop := fnExactComplementDesignRow.holds Tryd.pinned (OpenSpec.ofChange fnExactComplementDesignSpec)

/-- ITS FALSE NEIGHBOUR: 'it returns false'. Refute it at one input. -/
def fnExactComplementDesignWrong : ChangeSpec := { name := "fnExactComplementDesign", fn := fun _ => fun
  | [d] => { results := [.lit (.bool false)], args := [d] }
  | _ => none }
def FnExactComplementDesignWrongFalsely : Prop := fnExactComplementDesignRow.holds Tryd.pinned (OpenSpec.ofChange fnExactComplementDesignWrong)

/-- 'laws.FnExactDualDesign': WHATEVER THE INPUT: true; the input reads as it did. -/
def fnExactDualDesignSpec : ChangeSpec := { name := "fnExactDualDesign", fn := fun _ => fun
  | [d] => { results := [.lit (.bool true)], args := [d] }
  | _ => none }
def fnExactDualDesignRow : OpenClaim := { program := "ytpckbhelnoeifaadoor", sum := "b025aa5780fd2fe95658e69ea67b575e5ff3079153101ebc4bb7a59ba7ccf4c8", func := "loop.example/g00920/laws.FnExactDualDesign", spec := "fnExactDualDesign", inPlace := ["internal/reflectlite.ValueOf", "(internal/reflectlite.Value).Len", "internal/reflectlite.Swapper"], unfollowed := true, recurses := true, named := ["math/bits.deBruijn32tab"], apart := false, laid := [("math/bits.deBruijn32tab", laid_math_bits_deBruijn32tab)] }
def FnExactDualDesignSaid : Prop := fnExactDualDesignRow.holds Tryd.pinned (OpenSpec.ofChange fnExactDualDesignSpec)

/-- ITS FALSE NEIGHBOUR: 'it returns false'. Refute it at one input. -/
def fnExactDualDesignWrong : ChangeSpec := { name := "fnExactDualDesign", fn := fun _ => fun
  | [d] => { results := [.lit (.bool false)], args := [d] }
  | _ => none }
def FnExactDualDesignWrongFalsely : Prop := fnExactDualDesignRow.holds Tryd.pinned (OpenSpec.ofChange fnExactDualDesignWrong)

/-- 'laws.FnExactDerivedDesign': WHATEVER THE INPUT: true; the input reads as it did. -/
def fnExactDerivedDesignSpec : ChangeSpec := { name := "fnExactDerivedDesign", fn := fun _ => fun
  | [d1, d2] => { results := [.lit (.bool true)], args := [d1, d2] }
  | _ => none }
def fnExactDerivedDesignRow : OpenClaim := { program := "ytpckbhelnoeifaadoor", sum := "b025aa5780fd2fe95658e69ea67b575e5ff3079153101ebc4bb7a59ba7ccf4c8", func := "loop.example/g00920/laws.FnExactDerivedDesign", spec := "fnExactDerivedDesign", inPlace := ["internal/reflectlite.ValueOf", "(internal/reflectlite.Value).Len", "internal/reflectlite.Swapper"], unfollowed := true, recurses := true, named := ["math/bits.deBruijn32tab"], apart := false, laid := [("math/bits.deBruijn32tab", laid_math_bits_deBruijn32tab)] }
def FnExactDerivedDesignSaid : Prop := fnExactDerivedDesignRow.holds Tryd.pinned (OpenSpec.ofChange fnExactDerivedDesignSpec)

/-- ITS FALSE NEIGHBOUR: 'it returns false'. Refute it at one input. -/
def fnExactDerivedDesignWrong : ChangeSpec := { name := "fnExactDerivedDesign", fn := fun _ => fun
  | [d1, d2] => { results := [.lit (.bool false)], args := [d1, d2] }
  | _ => none }
def FnExactDerivedDesignWrongFalsely : Prop := fnExactDerivedDesignRow.holds Tryd.pinned (OpenSpec.ofChange fnExactDerivedDesignWrong)

/-- 'laws.FnExactResidualDesign': WHATEVER THE INPUT: true; the input reads as it did. -/
def fnExactResidualDesignSpec : ChangeSpec := { name := "fnExactResidualDesign", fn := fun _ => fun
  | [d1, d2] => { results := [.lit (.bool true)], args := [d1, d2] }
  | _ => none }
def fnExactResidualDesignRow : OpenClaim := { program := "ytpckbhelnoeifaadoor", sum := "b025aa5780fd2fe95658e69ea67b575e5ff3079153101ebc4bb7a59ba7ccf4c8", func := "loop.example/g00920/laws.FnExactResidualDesign", spec := "fnExactResidualDesign", inPlace := ["internal/reflectlite.ValueOf", "(internal/reflectlite.Value).Len", "internal/reflectlite.Swapper"], unfollowed := true, recurses := true, named := ["math/bits.deBruijn32tab"], apart := false, laid := [("math/bits.deBruijn32tab", laid_math_bits_deBruijn32tab)] }
def FnExactResidualDesignSaid : Prop := fnExactResidualDesignRow.holds Tryd.pinned (OpenSpec.ofChange fnExactResidualDesignSpec)

/-- ITS FALSE NEIGHBOUR: 'it returns false'. Refute it at one input. -/
def fnExactResidualDesignWrong : ChangeSpec := { name := "fnExactResidualDesign", fn := fun _ => fun
  | [d1, d2] => { results := [.lit (.bool false)], args := [d1, d2] }
  | _ => none }
def FnExactResidualDesignWrongFalsely : Prop := fnExactResidualDesignRow.holds Tryd.pinned (OpenSpec.ofChange fnExactResidualDesignWrong)

/-- 'laws.FnExactSumDesigns': WHATEVER THE INPUT: true; the input reads as it did. -/
def fnExactSumDesignsSpec : ChangeSpec := { name := "fnExactSumDesigns", fn := fun _ => fun
  | [d1, d2] => { results := [.lit (.bool true)], args := [d1, d2] }
  | _ => none }
def fnExactSumDesignsRow : OpenClaim := { program := "ytpckbhelnoeifaadoor", sum := "b025aa5780fd2fe95658e69ea67b575e5ff3079153101ebc4bb7a59ba7ccf4c8", func := "loop.example/g00920/laws.FnExactSumDesigns", spec := "fnExactSumDesigns", inPlace := ["internal/reflectlite.ValueOf", "(internal/reflectlite.Value).Len", "internal/reflectlite.Swapper"], unfollowed := true, recurses := true, named := ["math/bits.deBruijn32tab"], apart := false, laid := [("math/bits.deBruijn32tab", laid_math_bits_deBruijn32tab)] }
def FnExactSumDesignsSaid : Prop := fnExactSumDesignsRow.holds Tryd.pinned (OpenSpec.ofChange fnExactSumDesignsSpec)

/-- ITS FALSE NEIGHBOUR: 'it returns false'. Refute it at one input. -/
def fnExactSumDesignsWrong : ChangeSpec := { name := "fnExactSumDesigns", fn := fun _ => fun
  | [d1, d2] => { results := [.lit (.bool false)], args := [d1, d2] }
  | _ => none }
def FnExactSumDesignsWrongFalsely : Prop := fnExactSumDesignsRow.holds Tryd.pinned (OpenSpec.ofChange fnExactSumDesignsWrong)

/-- 'laws.FnExactRelabelDesign': WHATEVER THE INPUT: true; the input reads as it did. -/
def fnExactRelabelDesignSpec : ChangeSpec := { name := "fnExactRelabelDesign", fn := fun _ => fun
  | [d1, d2] => { results := [.lit (.bool true)], args := [d1, d2] }
  | _ => none }
def fnExactRelabelDesignRow : OpenClaim := { program := "ytpckbhelnoeifaadoor", sum := "b025aa5780fd2fe95658e69ea67b575e5ff3079153101ebc4bb7a59ba7ccf4c8", func := "loop.example/g00920/laws.FnExactRelabelDesign", spec := "fnExactRelabelDesign", inPlace := ["internal/reflectlite.ValueOf", "(internal/reflectlite.Value).Len", "internal/reflectlite.Swapper"], unfollowed := true, recurses := true, named := ["math/bits.deBruijn32tab"], apart := false, laid := [("math/bits.deBruijn32tab", laid_math_bits_deBruijn32tab)] }
def FnExactRelabelDesignSaid : Prop := fnExactRelabelDesignRow.holds Tryd.pinned (OpenSpec.ofChange fnExactRelabelDesignSpec)

/-- ITS FALSE NEIGHBOUR: 'it returns false'. Refute it at one input. -/
def fnExactRelabelDesignWrong : ChangeSpec := { name := "fnExactRelabelDesign", fn := fun _ => fun
  | [d1, d2] => { results := [.lit (.bool false)], args := [d1, d2] }
  | _ => none }
def FnExactRelabelDesignWrongFalsely : Prop := fnExactRelabelDesignRow.holds Tryd.pinned (OpenSpec.ofChange fnExactRelabelDesignWrong)

/-- 'laws.FnExactDesignOfMatrix': WHATEVER THE INPUT: true; the input reads as it did. -/
def fnExactDesignOfMatrixSpec : ChangeSpec := { name := "fnExactDesignOfMatrix", fn := fun _ => fun
  | [d] => { results := [.lit (.bool true)], args := [d] }
  | _ => none }
def fnExactDesignOfMatrixRow : OpenClaim := { program := "ytpckbhelnoeifaadoor", sum := "b025aa5780fd2fe95658e69ea67b575e5ff3079153101ebc4bb7a59ba7ccf4c8", func := "loop.example/g00920/laws.FnExactDesignOfMatrix", spec := "fnExactDesignOfMatrix", inPlace := ["internal/reflectlite.ValueOf", "internal/reflectlite.Swapper", "(internal/reflectlite.Value).Len"], unfollowed := true, recurses := true, named := ["math/bits.deBruijn32tab"], apart := false, laid := [("math/bits.deBruijn32tab", laid_math_bits_deBruijn32tab)] }
def FnExactDesignOfMatrixSaid : Prop := fnExactDesignOfMatrixRow.holds Tryd.pinned (OpenSpec.ofChange fnExactDesignOfMatrixSpec)

/-- ITS FALSE NEIGHBOUR: 'it returns false'. Refute it at one input. -/
def fnExactDesignOfMatrixWrong : ChangeSpec := { name := "fnExactDesignOfMatrix", fn := fun _ => fun
  | [d] => { results := [.lit (.bool false)], args := [d] }
  | _ => none }
def FnExactDesignOfMatrixWrongFalsely : Prop := fnExactDesignOfMatrixRow.holds Tryd.pinned (OpenSpec.ofChange fnExactDesignOfMatrixWrong)

/- THE SECOND FORM. 'bulk': how many values and letters a reading holds, each counted each time it is reached (what is shared counts as often as it is met; a slice's spare places count too). A statement '..UptoSaid' is the law's where the arguments, and the package variables that the reading takes, are together of bulk at most 1048576: NARROWER than '..Said'. Prove '..Said' where nothing that the law and all that it calls make is longer than what came in: it says more and counts as full. Else prove '..UptoSaid'. A law counts once. -/
mutual
def uptoBulk {H : Type} : DataW H → Nat
  | .lit (.string bytes) => bytes.length + 1
  | .lit _ => 1
  | .nil => 1
  | .ptr d => uptoBulk d + 1
  | .slice elems spare => uptoBulkAll elems + uptoBulkAll spare + 1
  | .agg parts => uptoBulkAll parts + 1
  | .iface _ d => uptoBulk d + 1
  | .map entries => uptoBulkEntries entries + 1
  | .held _ => 1
def uptoBulkAll {H : Type} : List (DataW H) → Nat
  | [] => 0
  | d :: r => uptoBulk d + uptoBulkAll r
def uptoBulkEntries {H : Type} : List (Lit × DataW H) → Nat
  | [] => 0
  | x :: r => uptoBulkEntry x + uptoBulkEntries r
def uptoBulkEntry {H : Type} : Lit × DataW H → Nat
  | (.string bytes, d) => bytes.length + uptoBulk d + 1
  | (_, d) => uptoBulk d + 1
 end
def uptoSmall : (H : Type) → List (DataW H) → Bool := fun _ ds => decide (uptoBulkAll ds ≤ 1048576)
def OpenSpec.upto (s : _root_.Go.ChangeSpec) : _root_.Go.OpenSpec := { _root_.Go.OpenSpec.ofChange s with cond := some uptoSmall }

/-- 'laws.FnExactParametersOf', WHERE WHAT IT READS IS OF BULK AT MOST 1048576: true; the input reads as it did. -/
def fnExactParametersOfUptoRow : OpenClaim := { program := "ytpckbhelnoeifaadoor", sum := "b025aa5780fd2fe95658e69ea67b575e5ff3079153101ebc4bb7a59ba7ccf4c8", func := "loop.example/g00920/laws.FnExactParametersOf", spec := "fnExactParametersOf", inPlace := ["internal/reflectlite.ValueOf", "(internal/reflectlite.Value).Len"], unfollowed := true, recurses := true, named := ["math/bits.deBruijn32tab"], apart := false, laid := [("math/bits.deBruijn32tab", laid_math_bits_deBruijn32tab)], narrowed := true }
def FnExactParametersOfUptoSaid : Prop := fnExactParametersOfUptoRow.holds Tryd.pinned (OpenSpec.upto fnExactParametersOfSpec)

/-- 'laws.FnExactSortDesign', WHERE WHAT IT READS IS OF BULK AT MOST 1048576: true; the input reads as it did. -/
def fnExactSortDesignUptoRow : OpenClaim := { program := "ytpckbhelnoeifaadoor", sum := "b025aa5780fd2fe95658e69ea67b575e5ff3079153101ebc4bb7a59ba7ccf4c8", func := "loop.example/g00920/laws.FnExactSortDesign", spec := "fnExactSortDesign", inPlace := ["internal/reflectlite.ValueOf", "internal/reflectlite.Swapper", "(internal/reflectlite.Value).Len"], unfollowed := true, recurses := true, named := ["math/bits.deBruijn32tab"], apart := false, laid := [("math/bits.deBruijn32tab", laid_math_bits_deBruijn32tab)], narrowed := true }
def FnExactSortDesignUptoSaid : Prop := fnExactSortDesignUptoRow.holds Tryd.pinned (OpenSpec.upto fnExactSortDesignSpec)

/-- 'laws.FnExactComplementDesign', WHERE WHAT IT READS IS OF BULK AT MOST 1048576: true; the input reads as it did. -/
def fnExactComplementDesignUptoRow : OpenClaim := { program := "ytpckbhelnoeifaadoor", sum := "b025aa5780fd2fe95658e69ea67b575e5ff3079153101ebc4bb7a59ba7ccf4c8", func := "loop.example/g00920/laws.FnExactComplementDesign", spec := "fnExactComplementDesign", inPlace := ["internal/reflectlite.ValueOf", "(internal/reflectlite.Value).Len", "internal/reflectlite.Swapper"], unfollowed := true, recurses := true, named := ["math/bits.deBruijn32tab"], apart := false, laid := [("math/bits.deBruijn32tab", laid_math_bits_deBruijn32tab)], narrowed := true }
def FnExactComplementDesignUptoSaid : Prop := fnExactComplementDesignUptoRow.holds Tryd.pinned (OpenSpec.upto fnExactComplementDesignSpec)

/-- 'laws.FnExactDualDesign', WHERE WHAT IT READS IS OF BULK AT MOST 1048576: true; the input reads as it did. -/
def fnExactDualDesignUptoRow : OpenClaim := { program := "ytpckbhelnoeifaadoor", sum := "b025aa5780fd2fe95658e69ea67b575e5ff3079153101ebc4bb7a59ba7ccf4c8", func := "loop.example/g00920/laws.FnExactDualDesign", spec := "fnExactDualDesign", inPlace := ["internal/reflectlite.ValueOf", "(internal/reflectlite.Value).Len", "internal/reflectlite.Swapper"], unfollowed := true, recurses := true, named := ["math/bits.deBruijn32tab"], apart := false, laid := [("math/bits.deBruijn32tab", laid_math_bits_deBruijn32tab)], narrowed := true }
def FnExactDualDesignUptoSaid : Prop := fnExactDualDesignUptoRow.holds Tryd.pinned (OpenSpec.upto fnExactDualDesignSpec)

/-- 'laws.FnExactDerivedDesign', WHERE WHAT IT READS IS OF BULK AT MOST 1048576: true; the input reads as it did. -/
def fnExactDerivedDesignUptoRow : OpenClaim := { program := "ytpckbhelnoeifaadoor", sum := "b025aa5780fd2fe95658e69ea67b575e5ff3079153101ebc4bb7a59ba7ccf4c8", func := "loop.example/g00920/laws.FnExactDerivedDesign", spec := "fnExactDerivedDesign", inPlace := ["internal/reflectlite.ValueOf", "(internal/reflectlite.Value).Len", "internal/reflectlite.Swapper"], unfollowed := true, recurses := true, named := ["math/bits.deBruijn32tab"], apart := false, laid := [("math/bits.deBruijn32tab", laid_math_bits_deBruijn32tab)], narrowed := true }
def FnExactDerivedDesignUptoSaid : Prop := fnExactDerivedDesignUptoRow.holds Tryd.pinned (OpenSpec.upto fnExactDerivedDesignSpec)

/-- 'laws.FnExactResidualDesign', WHERE WHAT IT READS IS OF BULK AT MOST 1048576: true; the input reads as it did. -/
def fnExactResidualDesignUptoRow : OpenClaim := { program := "ytpckbhelnoeifaadoor", sum := "b025aa5780fd2fe95658e69ea67b575e5ff3079153101ebc4bb7a59ba7ccf4c8", func := "loop.example/g00920/laws.FnExactResidualDesign", spec := "fnExactResidualDesign", inPlace := ["internal/reflectlite.ValueOf", "(internal/reflectlite.Value).Len", "internal/reflectlite.Swapper"], unfollowed := true, recurses := true, named := ["math/bits.deBruijn32tab"], apart := false, laid := [("math/bits.deBruijn32tab", laid_math_bits_deBruijn32tab)], narrowed := true }
def FnExactResidualDesignUptoSaid : Prop := fnExactResidualDesignUptoRow.holds Tryd.pinned (OpenSpec.upto fnExactResidualDesignSpec)

/-- 'laws.FnExactSumDesigns', WHERE WHAT IT READS IS OF BULK AT MOST 1048576: true; the input reads as it did. -/
def fnExactSumDesignsUptoRow : OpenClaim := { program := "ytpckbhelnoeifaadoor", sum := "b025aa5780fd2fe95658e69ea67b575e5ff3079153101ebc4bb7a59ba7ccf4c8", func := "loop.example/g00920/laws.FnExactSumDesigns", spec := "fnExactSumDesigns", inPlace := ["internal/reflectlite.ValueOf", "(internal/reflectlite.Value).Len", "internal/reflectlite.Swapper"], unfollowed := true, recurses := true, named := ["math/bits.deBruijn32tab"], apart := false, laid := [("math/bits.deBruijn32tab", laid_math_bits_deBruijn32tab)], narrowed := true }
def FnExactSumDesignsUptoSaid : Prop := fnExactSumDesignsUptoRow.holds Tryd.pinned (OpenSpec.upto fnExactSumDesignsSpec)

/-- 'laws.FnExactRelabelDesign', WHERE WHAT IT READS IS OF BULK AT MOST 1048576: true; the input reads as it did. -/
def fnExactRelabelDesignUptoRow : OpenClaim := { program := "ytpckbhelnoeifaadoor", sum := "b025aa5780fd2fe95658e69ea67b575e5ff3079153101ebc4bb7a59ba7ccf4c8", func := "loop.example/g00920/laws.FnExactRelabelDesign", spec := "fnExactRelabelDesign", inPlace := ["internal/reflectlite.ValueOf", "(internal/reflectlite.Value).Len", "internal/reflectlite.Swapper"], unfollowed := true, recurses := true, named := ["math/bits.deBruijn32tab"], apart := false, laid := [("math/bits.deBruijn32tab", laid_math_bits_deBruijn32tab)], narrowed := true }
def FnExactRelabelDesignUptoSaid : Prop := fnExactRelabelDesignUptoRow.holds Tryd.pinned (OpenSpec.upto fnExactRelabelDesignSpec)

/-- 'laws.FnExactDesignOfMatrix', WHERE WHAT IT READS IS OF BULK AT MOST 1048576: true; the input reads as it did. -/
def fnExactDesignOfMatrixUptoRow : OpenClaim := { program := "ytpckbhelnoeifaadoor", sum := "b025aa5780fd2fe95658e69ea67b575e5ff3079153101ebc4bb7a59ba7ccf4c8", func := "loop.example/g00920/laws.FnExactDesignOfMatrix", spec := "fnExactDesignOfMatrix", inPlace := ["internal/reflectlite.ValueOf", "internal/reflectlite.Swapper", "(internal/reflectlite.Value).Len"], unfollowed := true, recurses := true, named := ["math/bits.deBruijn32tab"], apart := false, laid := [("math/bits.deBruijn32tab", laid_math_bits_deBruijn32tab)], narrowed := true }
def FnExactDesignOfMatrixUptoSaid : Prop := fnExactDesignOfMatrixUptoRow.holds Tryd.pinned (OpenSpec.upto fnExactDesignOfMatrixSpec)

end Rows
end Go.Proofs.YtpckbhelnoeifaaDoor
