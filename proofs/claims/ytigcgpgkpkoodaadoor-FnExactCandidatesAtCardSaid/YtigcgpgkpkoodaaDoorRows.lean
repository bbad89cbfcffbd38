/-
  NARROWER THAN 'FOR EVERY INPUT', by the rows' own cells (each row's printed sentence says how): FnExactUnionSets: laid · FnExactMeetSets: laid · FnExactMinusSets: laid · FnSets: laid · FnExactApplySet: laid · FnExactIsSubsquare: laid · FnExactCandidatesAt: laid · FnExactClosureIn: laid.
  DERIVED. THE GIVEN ROWS OF THIS SEAT. 8 by the template 'for every input the law returns true; each argument reads behind the call as it read before'; 0 by the template 'total and deterministic' (their statements: YtigcgpgkpkoodaaDoorTotals.lean).
  GIVEN WITH THE SEED: the statements are not yours to turn. If you find one false, say at which input.
  Laid BY PROGRAM, IN A SANDBOX (cutbox-rows.mjs): the forced cells as the released guide's own fill.sh prints them over the translation e31a0d607abcb618… (all of the seat's roots in one cut). By AI agents, Wed Nov 11 2026. No macro, syntax, notation, axiom, sorry.
-/
import Derived.Test.YtigcgpgkpkoodaaDoorChecked
import GoSem.Claim
import GoSem.ClaimJoined
import GoSem.ClaimMapViews
import Derived.JoinedTies
import Derived.KernelRfl
namespace Go.Proofs.YtigcgpgkpkoodaaDoor
/- THE CELL 'sum', in the pinned program and in every row, IS THE sha256 OF THE DUMP (.gsa) THAT YtigcgpgkpkoodaaDoorProg.lean LOADS. Nothing in Lean hashes anything: it is a label: what it is worth is what the hold of that sum in a sandbox is worth. -/
noncomputable def Tryd.pinned : Pinned := { name := "ytigcgpgkpkoodaadoor", sum := "e31a0d607abcb618568546730c5ec2213956524f44fd73aa024a764fb827e2ea", checked := Tryd.checked }
namespace Rows
def none {H : Type} : Left H := { results := [], args := [] }

/- WHAT THE LISTED PACKAGE-LEVEL VARIABLES READ AS WHEN THE CALL BEGINS. Each datum BY PROGRAM (the guide's laid-datum.mjs) off the statement by which the dump's own 'gosem.cut.vars' lays the variable. In a bare row this is a premise. The card (YtigcgpgkpkoodaaDoorCards.lean) ties it to the program's text. -/
def laid_math_bits_deBruijn32tab {H : Type} : DataW H := .agg [.lit (.int .u8 0), .lit (.int .u8 1), .lit (.int .u8 28), .lit (.int .u8 2), .lit (.int .u8 29), .lit (.int .u8 14), .lit (.int .u8 24), .lit (.int .u8 3), .lit (.int .u8 30), .lit (.int .u8 22), .lit (.int .u8 20), .lit (.int .u8 15), .lit (.int .u8 25), .lit (.int .u8 17), .lit (.int .u8 4), .lit (.int .u8 8), .lit (.int .u8 31), .lit (.int .u8 27), .lit (.int .u8 13), .lit (.int .u8 23), .lit (.int .u8 21), .lit (.int .u8 19), .lit (.int .u8 16), .lit (.int .u8 7), .lit (.int .u8 26), .lit (.int .u8 12), .lit (.int .u8 18), .lit (.int .u8 6), .lit (.int .u8 11), .lit (.int .u8 5), .lit (.int .u8 10), .lit (.int .u8 9)]

/-- 'laws.FnExactUnionSets': WHATEVER THE INPUT: true; the input reads as it did. -/
def fnExactUnionSetsSpec : ChangeSpec := { name := "fnExactUnionSets", fn := fun _ => fun
  | [d1, d2] => { results := [.lit (.bool true)], args := [d1, d2] }
  | _ => none }
def fnExactUnionSetsRow : OpenClaim := { program := "ytigcgpgkpkoodaadoor", sum := "e31a0d607abcb618568546730c5ec2213956524f44fd73aa024a764fb827e2ea", func := "loop.example/g00920/laws.FnExactUnionSets", spec := "fnExactUnionSets", unfollowed := true, recurses := true, named := ["math/bits.deBruijn32tab"], apart := false, laid := [("math/bits.deBruijn32tab", laid_math_bits_deBruijn32tab)] }
def FnExactUnionSetsSaid : Prop := fnExactUnionSetsRow.holds Tryd.pinned (OpenSpec.ofChange fnExactUnionSetsSpec)

/-- ITS FALSE NEIGHBOUR: 'it returns false'. Refute it at one input. -/
def fnExactUnionSetsWrong : ChangeSpec := { name := "fnExactUnionSets", fn := fun _ => fun
  | [d1, d2] => { results := [.lit (.bool false)], args := [d1, d2] }
  | _ => none }
def FnExactUnionSetsWrongFalsely : Prop := fnExactUnionSetsRow.holds Tryd.pinned (OpenSpec.ofChange fnExactUnionSetsWrong)

/-- 'laws.FnExactMeetSets': WHATEVER THE INPUT: true; the input reads as it did. -/
def fnExactMeetSetsSpec : ChangeSpec := { name := "fnExactMeetSets", fn := fun _ => fun
  | [d1, d2] => { results := [.lit (.bool true)], args := [d1, d2] }
  | _ => none }
def fnExactMeetSetsRow : OpenClaim := { program := "ytigcgpgkpkoodaadoor", sum := "e31a0d607abcb618568546730c5ec2213956524f44fd73aa024a764fb827e2ea", func := "loop.example/g00920/laws.FnExactMeetSets", spec := "fnExactMeetSets", unfollowed := true, recurses := true, named := ["math/bits.deBruijn32tab"], apart := false, laid := [("math/bits.deBruijn32tab", laid_math_bits_deBruijn32tab)] }
def FnExactMeetSetsSaid : Prop := fnExactMeetSetsRow.holds Tryd.pinned (OpenSpec.ofChange fnExactMeetSetsSpec)

/-- ITS FALSE NEIGHBOUR: 'it returns false'. Refute it at one input. -/
def fnExactMeetSetsWrong : ChangeSpec := { name := "fnExactMeetSets", fn := fun _ => fun
  | [d1, d2] => { results := [.lit (.bool false)], args := [d1, d2] }
  | _ => none }
def FnExactMeetSetsWrongFalsely : Prop := fnExactMeetSetsRow.holds Tryd.pinned (OpenSpec.ofChange fnExactMeetSetsWrong)

/-- 'laws.FnExactMinusSets': WHATEVER THE INPUT: true; the input reads as it did. -/
def fnExactMinusSetsSpec : ChangeSpec := { name := "fnExactMinusSets", fn := fun _ => fun
  | [d1, d2] => { results := [.lit (.bool true)], args := [d1, d2] }
  | _ => none }
def fnExactMinusSetsRow : OpenClaim := { program := "ytigcgpgkpkoodaadoor", sum := "e31a0d607abcb618568546730c5ec2213956524f44fd73aa024a764fb827e2ea", func := "loop.example/g00920/laws.FnExactMinusSets", spec := "fnExactMinusSets", unfollowed := true, recurses := true, named := ["math/bits.deBruijn32tab"], apart := false, laid := [("math/bits.deBruijn32tab", laid_math_bits_deBruijn32tab)] }
def FnExactMinusSetsSaid : Prop := fnExactMinusSetsRow.holds Tryd.pinned (OpenSpec.ofChange fnExactMinusSetsSpec)

/-- ITS FALSE NEIGHBOUR: 'it returns false'. Refute it at one input. -/
def fnExactMinusSetsWrong : ChangeSpec := { name := "fnExactMinusSets", fn := fun _ => fun
  | [d1, d2] => { results := [.lit (.bool false)], args := [d1, d2] }
  | _ => none }
def FnExactMinusSetsWrongFalsely : Prop := fnExactMinusSetsRow.holds Tryd.pinned (OpenSpec.ofChange fnExactMinusSetsWrong)

/-- 'laws.FnSets': WHATEVER THE INPUT: true; the input reads as it did. -/
def fnSetsSpec : ChangeSpec := { name := "fnSets", fn := fun _ => fun
  | [d] => { results := [.lit (.bool true)], args := [d] }
  | _ => none }
def fnSetsRow : OpenClaim := { program := "ytigcgpgkpkoodaadoor", sum := "e31a0d607abcb618568546730c5ec2213956524f44fd73aa024a764fb827e2ea", func := "loop.example/g00920/laws.FnSets", spec := "fnSets", unfollowed := true, recurses := true, named := ["math/bits.deBruijn32tab"], apart := false, laid := [("math/bits.deBruijn32tab", laid_math_bits_deBruijn32tab)] }
def FnSetsSaid : Prop := fnSetsRow.holds Tryd.pinned (OpenSpec.ofChange fnSetsSpec)

/-- ITS FALSE NEIGHBOUR: 'it returns false'. Refute it at one input. -/
def fnSetsWrong : ChangeSpec := { name := "fnSets", fn := fun _ => fun
  | [d] => { results := [.lit (.bool false)], args := [d] }
  | _ => none }
def FnSetsWrongFalsely : Prop := fnSetsRow.holds Tryd.pinned (OpenSpec.ofChange fnSetsWrong)

/-- 'laws.FnExactApplySet': WHATEVER THE INPUT: true; the input reads as it did. -/
def fnExactApplySetSpec : ChangeSpec := { name := "fnExactApplySet", fn := fun _ => fun
  | [d1, d2] => { results := [.lit (.bool true)], args := [d1, d2] }
  | _ => none }
def fnExactApplySetRow : OpenClaim := { program := "ytigcgpgkpkoodaadoor", sum := "e31a0d607abcb618568546730c5ec2213956524f44fd73aa024a764fb827e2ea", func := "loop.example/g00920/laws.FnExactApplySet", spec := "fnExactApplySet", unfollowed := true, recurses := true, named := ["math/bits.deBruijn32tab"], apart := false, laid := [("math/bits.deBruijn32tab", laid_math_bits_deBruijn32tab)] }
def FnExactApplySetSaid : Prop := fnExactApplySetRow.holds Tryd.pinned (OpenSpec.ofChange fnExactApplySetSpec)

/-- ITS FALSE NEIGHBOUR: 'it returns false'. Refute it at one input. -/
def fnExactApplySetWrong : ChangeSpec := { name := "fnExactApplySet", fn := fun _ => fun
  | [d1, d2] => { results := [.lit (.bool false)], args := [d1, d2] }
  | _ => none }
def FnExactApplySetWrongFalsely : Prop := fnExactApplySetRow.holds Tryd.pinned (OpenSpec.ofChange fnExactApplySetWrong)

/-- 'laws.FnExactIsSubsquare': WHATEVER THE INPUT: true; the input reads as it did. -/
def fnExactIsSubsquareSpec : ChangeSpec := { name := "fnExactIsSubsquare", fn := fun _ => fun
  | [d1, d2, d3] => { results := [.lit (.bool true)], args := [d1, d2, d3] }
  | _ => none }
def fnExactIsSubsquareRow : OpenClaim := { program := "ytigcgpgkpkoodaadoor", sum := "e31a0d607abcb618568546730c5ec2213956524f44fd73aa024a764fb827e2ea", func := "loop.example/g00920/laws.FnExactIsSubsquare", spec := "fnExactIsSubsquare", unfollowed := true, recurses := true, named := ["math/bits.deBruijn32tab"], apart := false, laid := [("math/bits.deBruijn32tab", laid_math_bits_deBruijn32tab)] }
def FnExactIsSubsquareSaid : Prop := fnExactIsSubsquareRow.holds Tryd.pinned (OpenSpec.ofChange fnExactIsSubsquareSpec)

/-- ITS FALSE NEIGHBOUR: 'it returns false'. Refute it at one input. -/
def fnExactIsSubsquareWrong : ChangeSpec := { name := "fnExactIsSubsquare", fn := fun _ => fun
  | [d1, d2, d3] => { results := [.lit (.bool false)], args := [d1, d2, d3] }
  | _ => none }
def FnExactIsSubsquareWrongFalsely : Prop := fnExactIsSubsquareRow.holds Tryd.pinned (OpenSpec.ofChange fnExactIsSubsquareWrong)

/-- 'laws.FnExactCandidatesAt': WHATEVER THE INPUT: true; the input reads as it did. -/
def fnExactCandidatesAtSpec : ChangeSpec := { name := "fnExactCandidatesAt", fn := fun _ => fun
  | [d1, d2, d3] => { results := [.lit (.bool true)], args := [d1, d2, d3] }
  | _ => none }
def fnExactCandidatesAtRow : OpenClaim := { program := "ytigcgpgkpkoodaadoor", sum := "e31a0d607abcb618568546730c5ec2213956524f44fd73aa024a764fb827e2ea", func := "loop.example/g00920/laws.FnExactCandidatesAt", spec := "fnExactCandidatesAt", unfollowed := true, recurses := true, named := ["math/bits.deBruijn32tab"], apart := false, laid := [("math/bits.deBruijn32tab", laid_math_bits_deBruijn32tab)] }
def FnExactCandidatesAtSaid : Prop := fnExactCandidatesAtRow.holds Tryd.pinned (OpenSpec.ofChange fnExactCandidatesAtSpec)

/-- ITS FALSE NEIGHBOUR: 'it returns false'. Refute it at one input. -/
def fnExactCandidatesAtWrong : ChangeSpec := { name := "fnExactCandidatesAt", fn := fun _ => fun
  | [d1, d2, d3] => { results := [.lit (.bool false)], args := [d1, d2, d3] }
  | _ => none }
def FnExactCandidatesAtWrongFalsely : Prop := fnExactCandidatesAtRow.holds Tryd.pinned (OpenSpec.ofChange fnExactCandidatesAtWrong)

/-- 'laws.FnExactClosureIn': WHATEVER THE INPUT: true; the input reads as it did. -/
def fnExactClosureInSpec : ChangeSpec := { name := "fnExactClosureIn", fn := fun _ => fun
  | [d1, d2] => { results := [.lit (.bool true)], args := [d1, d2] }
  | _ => none }
def fnExactClosureInRow : OpenClaim := { program := "ytigcgpgkpkoodaadoor", sum := "e31a0d607abcb618568546730c5ec2213956524f44fd73aa024a764fb827e2ea", func := "loop.example/g00920/laws.FnExactClosureIn", spec := "fnExactClosureIn", unfollowed := true, recurses := true, named := ["math/bits.deBruijn32tab"], apart := false, laid := [("math/bits.deBruijn32tab", laid_math_bits_deBruijn32tab)] }
def FnExactClosureInSaid : Prop := fnExactClosureInRow.holds Tryd.pinned (OpenSpec.ofChange fnExactClosureInSpec)

/-- ITS FALSE NEIGHBOUR: 'it returns false'. Refute it at one input. -/
def fnExactClosureInWrong : ChangeSpec := { name := "fnExactClosureIn", fn := fun _ => fun
  | [d1, d2] => { results := [.lit (.bool false)], args := [d1, d2] }
  | _ => none }
def FnExactClosureInWrongFalsely : Prop := fnExactClosureInRow.holds Tryd.pinned (OpenSpec.ofChange fnExactClosureInWrong)

/- THE SECOND FORM. 'bulk': how many values and letters a reading holds, each counted each time it is reached (what is shared counts as often as it is met; a slice's spare places count too). A statement '..UptoSaid' is the law's where the arguments, and the package variables that the reading takes, are together of bulk at most 1048576: NARROWER than '..Said'. Prove '..Said' where nothing that the law and all that it calls make is longer than what came in: it says more and counts as full. Else prove '..UptoSaid'. A law counts once. -/
mutual
def uptoBulk {H : Type} : DataW H → Nat
  | .lit (.string bytes) => bytes.length + 1
  | .lit _ => 1
  | .nil => 1
  | .ptr d => uptoBulk d + 1
  | .slice elems spare => uptoBulkAll elems + uptoBulkAll spare + 1
  | .agg parts => uptoBulkAll parts + 1
  | .iface _ d => uptoBulk d + 1
  | .map entries => uptoBulkEntries entries + 1
  | .held _ => 1
def uptoBulkAll {H : Type} : List (DataW H) → Nat
  | [] => 0
  | d :: r => uptoBulk d + uptoBulkAll r
def uptoBulkEntries {H : Type} : List (Lit × DataW H) → Nat
  | [] => 0
  | x :: r => uptoBulkEntry x + uptoBulkEntries r
def uptoBulkEntry {H : Type} : Lit × DataW H → Nat
  | (.string bytes, d) => bytes.length + uptoBulk d + 1
  | (_, d) => uptoBulk d + 1
 end
def uptoSmall : (H : Type) → List (DataW H) → Bool := fun _ ds => decide (uptoBulkAll ds ≤ 1048576)
def OpenSpec.upto (s : _root_.Go.ChangeSpec) : _root_.Go.OpenSpec := { _root_.Go.OpenSpec.ofChange s with cond := some uptoSmall }

/-- 'laws.FnExactUnionSets', WHERE WHAT IT READS IS OF BULK AT MOST 1048576: true; the input reads as it did. -/
def fnExactUnionSetsUptoRow : OpenClaim := { program := "ytigcgpgkpkoodaadoor", sum := "e31a0d607abcb618568546730c5ec2213956524f44fd73aa024a764fb827e2ea", func := "loop.example/g00920/laws.FnExactUnionSets", spec := "fnExactUnionSets", unfollowed := true, recurses := true, named := ["math/bits.deBruijn32tab"], apart := false, laid := [("math/bits.deBruijn32tab", laid_math_bits_deBruijn32tab)], narrowed := true }
def FnExactUnionSetsUptoSaid : Prop := fnExactUnionSetsUptoRow.holds Tryd.pinned (OpenSpec.upto fnExactUnionSetsSpec)

/-- 'laws.FnExactMeetSets', WHERE WHAT IT READS IS OF BULK AT MOST 1048576: true; the input reads as it did. -/
def fnExactMeetSetsUptoRow : OpenClaim := { program := "ytigcgpgkpkoodaadoor", sum := "e31a0d607abcb618568546730c5ec2213956524f44fd73aa024a764fb827e2ea", func := "loop.example/g00920/laws.FnExactMeetSets", spec := "fnExactMeetSets", unfollowed := true, recurses := true, named := ["math/bits.deBruijn32tab"], apart := false, laid := [("math/bits.deBruijn32tab", laid_math_bits_deBruijn32tab)], narrowed := true }
def FnExactMeetSetsUptoSaid : Prop := fnExactMeetSetsUptoRow.holds Tryd.pinned (OpenSpec.upto fnExactMeetSetsSpec)

/-- 'laws.FnExactMinusSets', WHERE WHAT IT READS IS OF BULK AT MOST 1048576: true; the input reads as it did. -/
def fnExactMinusSetsUptoRow : OpenClaim := { program := "ytigcgpgkpkoodaadoor", sum := "e31a0d607abcb618568546730c5ec2213956524f44fd73aa024a764fb827e2ea", func := "loop.example/g00920/laws.FnExactMinusSets", spec := "fnExactMinusSets", unfollowed := true, recurses := true, named := ["math/bits.deBruijn32tab"], apart := false, laid := [("math/bits.deBruijn32tab", laid_math_bits_deBruijn32tab)], narrowed := true }
def FnExactMinusSetsUptoSaid : Prop := fnExactMinusSetsUptoRow.holds Tryd.pinned (OpenSpec.upto fnExactMinusSetsSpec)

/-- 'laws.FnSets', WHERE WHAT IT READS IS OF BULK AT MOST 1048576: true; the input reads as it did. -/
def fnSetsUptoRow : OpenClaim := { program := "ytigcgpgkpkoodaadoor", sum := "e31a0d607abcb618568546730c5ec2213956524f44fd73aa024a764fb827e2ea", func := "loop.example/g00920/laws.FnSets", spec := "fnSets", unfollowed := true, recurses := true, named := ["math/bits.deBruijn32tab"], apart := false, laid := [("math/bits.deBruijn32tab", laid_math_bits_deBruijn32tab)], narrowed := true }
def FnSetsUptoSaid : Prop := fnSetsUptoRow.holds Tryd.pinned (OpenSpec.upto fnSetsSpec)

/-- 'laws.FnExactApplySet', WHERE WHAT IT READS IS OF BULK AT MOST 1048576: true; the input reads as it did. -/
def fnExactApplySetUptoRow : OpenClaim := { program := "ytigcgpgkpkoodaadoor", sum := "e31a0d607abcb618568546730c5ec2213956524f44fd73aa024a764fb827e2ea", func := "loop.example/g00920/laws.FnExactApplySet", spec := "fnExactApplySet", unfollowed := true, recurses := true, named := ["math/bits.deBruijn32tab"], apart := false, laid := [("math/bits.deBruijn32tab", laid_math_bits_deBruijn32tab)], narrowed := true }
def FnExactApplySetUptoSaid : Prop := fnExactApplySetUptoRow.holds Tryd.pinned (OpenSpec.upto fnExactApplySetSpec)

/-- 'laws.FnExactIsSubsquare', WHERE WHAT IT READS IS OF BULK AT MOST 1048576: true; the input reads as it did. -/
def fnExactIsSubsquareUptoRow : OpenClaim := { program := "ytigcgpgkpkoodaadoor", sum := "e31a0d607abcb618568546730c5ec2213956524f44fd73aa024a764fb827e2ea", func := "loop.example/g00920/laws.FnExactIsSubsquare", spec := "fnExactIsSubsquare", unfollowed := true, recurses := true, named := ["math/bits.deBruijn32tab"], apart := false, laid := [("math/bits.deBruijn32tab", laid_math_bits_deBruijn32tab)], narrowed := true }
def FnExactIsSubsquareUptoSaid : Prop := fnExactIsSubsquareUptoRow.holds Tryd.pinned (OpenSpec.upto fnExactIsSubsquareSpec)

/-- 'laws.FnExactCandidatesAt', WHERE WHAT IT READS IS OF BULK AT MOST 1048576: true; the input reads as it did. -/
def fnExactCandidatesAtUptoRow : OpenClaim := { program := "ytigcgpgkpkoodaadoor", sum := "e31a0d607abcb618568546730c5ec2213956524f44fd73aa024a764fb827e2ea", func := "loop.example/g00920/laws.FnExactCandidatesAt", spec := "fnExactCandidatesAt", unfollowed := true, recurses := true, named := ["math/bits.deBruijn32tab"], apart := false, laid := [("math/bits.deBruijn32tab", laid_math_bits_deBruijn32tab)], narrowed := true }
def FnExactCandidatesAtUptoSaid : Prop := fnExactCandidatesAtUptoRow.holds Tryd.pinned (OpenSpec.upto fnExactCandidatesAtSpec)

/-- 'laws.FnExactClosureIn', WHERE WHAT IT READS IS OF BULK AT MOST 1048576: true; the input reads as it did. -/
def fnExactClosureInUptoRow : OpenClaim := { program := "ytigcgpgkpkoodaadoor", sum := "e31a0d607abcb618568546730c5ec2213956524f44fd73aa024a764fb827e2ea", func := "loop.example/g00920/laws.FnExactClosureIn", spec := "fnExactClosureIn", unfollowed := true, recurses := true, named := ["math/bits.deBruijn32tab"], apart := false, laid := [("math/bits.deBruijn32tab", laid_math_bits_deBruijn32tab)], narrowed := true }
def FnExactClosureInUptoSaid : Prop := fnExactClosureInUptoRow.holds Tryd.pinned (OpenSpec.upto fnExactClosureInSpec)

end Rows
end Go.Proofs.YtigcgpgkpkoodaaDoor
