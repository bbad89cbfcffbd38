/-
  NARROWER THAN 'FOR EVERY INPUT', by the rows' own cells (each row's printed sentence says how): FnExactIsTripleSystem: laid · FnExactThirdPoint: laid · FnExactTripleSquare: laid · FnExactTripleLoop: laid.
  DERIVED. THE GIVEN ROWS OF THIS SEAT. 4 by the template 'for every input the law returns true; each argument reads behind the call as it read before'; 0 by the template 'total and deterministic' (their statements: YtanfodbpgpfjmabDoorTotals.lean).
  GIVEN WITH THE SEED: the statements are not yours to turn. If you find one false, say at which input.
  Laid BY PROGRAM, IN A SANDBOX (cutbox-rows.mjs): the forced cells as the released guide's own fill.sh prints them over the translation e7e8ef0dd04550d8… (all of the seat's roots in one cut). By AI agents, Wed Nov 11 2026. No macro, syntax, notation, axiom, sorry.
-/
import Derived.Test.YtanfodbpgpfjmabDoorChecked
import GoSem.Claim
import GoSem.ClaimJoined
import GoSem.ClaimMapViews
import Derived.JoinedTies
import Derived.KernelRfl
namespace Go.Proofs.YtanfodbpgpfjmabDoor
/- THE CELL 'sum', in the pinned program and in every row, IS THE sha256 OF THE DUMP (.gsa) THAT YtanfodbpgpfjmabDoorProg.lean LOADS. Nothing in Lean hashes anything: it is a label: what it is worth is what the hold of that sum in a sandbox is worth. -/
noncomputable def Tryd.pinned : Pinned := { name := "ytanfodbpgpfjmabdoor", sum := "e7e8ef0dd04550d89924f4aae434326d20683ce570d2abc17876a179e5a31df1", checked := Tryd.checked }
namespace Rows
def none {H : Type} : Left H := { results := [], args := [] }

/- WHAT THE LISTED PACKAGE-LEVEL VARIABLES READ AS WHEN THE CALL BEGINS. Each datum BY PROGRAM (the guide's laid-datum.mjs) off the statement by which the dump's own 'gosem.cut.vars' lays the variable. In a bare row this is a premise. The card (YtanfodbpgpfjmabDoorCards.lean) ties it to the program's text. -/
def laid_math_bits_deBruijn32tab {H : Type} : DataW H := .agg [.lit (.int .u8 0), .lit (.int .u8 1), .lit (.int .u8 28), .lit (.int .u8 2), .lit (.int .u8 29), .lit (.int .u8 14), .lit (.int .u8 24), .lit (.int .u8 3), .lit (.int .u8 30), .lit (.int .u8 22), .lit (.int .u8 20), .lit (.int .u8 15), .lit (.int .u8 25), .lit (.int .u8 17), .lit (.int .u8 4), .lit (.int .u8 8), .lit (.int .u8 31), .lit (.int .u8 27), .lit (.int .u8 13), .lit (.int .u8 23), .lit (.int .u8 21), .lit (.int .u8 19), .lit (.int .u8 16), .lit (.int .u8 7), .lit (.int .u8 26), .lit (.int .u8 12), .lit (.int .u8 18), .lit (.int .u8 6), .lit (.int .u8 11), .lit (.int .u8 5), .lit (.int .u8 10), .lit (.int .u8 9)]

/-- 'laws.FnExactIsTripleSystem': WHATEVER THE INPUT: true; the input reads as it did. -/
def fnExactIsTripleSystemSpec : ChangeSpec := { name := "fnExactIsTripleSystem", fn := fun _ => fun
  | [d] => { results := [.lit (.bool true)], args := [d] }
  | _ => none }
def fnExactIsTripleSystemRow : OpenClaim := { program := "ytanfodbpgpfjmabdoor", sum := "e7e8ef0dd04550d89924f4aae434326d20683ce570d2abc17876a179e5a31df1", func := "loop.example/g00920/laws.FnExactIsTripleSystem", spec := "fnExactIsTripleSystem", inPlace := ["internal/reflectlite.ValueOf", "(internal/reflectlite.Value).Len"], unfollowed := true, recurses := true, named := ["math/bits.deBruijn32tab"], plainKeys := false, apart := false, laid := [("math/bits.deBruijn32tab", laid_math_bits_deBruijn32tab)] }
def FnExactIsTripleSystemSaid : Prop := fnExactIsTripleSystemRow.holds Tryd.pinned (OpenSpec.ofChange fnExactIsTripleSystemSpec)

/-- ITS FALSE NEIGHBOUR: 'it returns false'. Refute it at one input. -/
def fnExactIsTripleSystemWrong : ChangeSpec := { name := "fnExactIsTripleSystem", fn := fun _ => fun
  | [d] => { results := [.lit (.bool false)], args := [d] }
  | _ => none }
def FnExactIsTripleSystemWrongFalsely : Prop := fnExactIsTripleSystemRow.holds Tryd.pinned (OpenSpec.ofChange fnExactIsTripleSystemWrong)

/-- 'laws.FnExactThirdPoint': WHATEVER THE INPUT: true; the input reads as it did. -/
def fnExactThirdPointSpec : ChangeSpec := { name := "fnExactThirdPoint", fn := fun _ => fun
  | [d1, d2, d3] => { results := [.lit (.bool true)], args := [d1, d2, d3] }
  | _ => none }
def fnExactThirdPointRow : OpenClaim := { program := "ytanfodbpgpfjmabdoor", sum := "e7e8ef0dd04550d89924f4aae434326d20683ce570d2abc17876a179e5a31df1", func := "loop.example/g00920/laws.FnExactThirdPoint", spec := "fnExactThirdPoint", inPlace := ["internal/reflectlite.ValueOf", "(internal/reflectlite.Value).Len"], unfollowed := true, recurses := true, named := ["math/bits.deBruijn32tab"], plainKeys := false, apart := false, laid := [("math/bits.deBruijn32tab", laid_math_bits_deBruijn32tab)] }
def FnExactThirdPointSaid : Prop := fnExactThirdPointRow.holds Tryd.pinned (OpenSpec.ofChange fnExactThirdPointSpec)

/-- ITS FALSE NEIGHBOUR: 'it returns false'. Refute it at one input. -/
def fnExactThirdPointWrong : ChangeSpec := { name := "fnExactThirdPoint", fn := fun _ => fun
  | [d1, d2, d3] => { results := [.lit (.bool false)], args := [d1, d2, d3] }
  | _ => none }
def FnExactThirdPointWrongFalsely : Prop := fnExactThirdPointRow.holds Tryd.pinned (OpenSpec.ofChange fnExactThirdPointWrong)

/-- 'laws.FnExactTripleSquare': WHATEVER THE INPUT: true; the input reads as it did. -/
def fnExactTripleSquareSpec : ChangeSpec := { name := "fnExactTripleSquare", fn := fun _ => fun
  | [d] => { results := [.lit (.bool true)], args := [d] }
  | _ => none }
def fnExactTripleSquareRow : OpenClaim := { program := "ytanfodbpgpfjmabdoor", sum := "e7e8ef0dd04550d89924f4aae434326d20683ce570d2abc17876a179e5a31df1", func := "loop.example/g00920/laws.FnExactTripleSquare", spec := "fnExactTripleSquare", inPlace := ["internal/reflectlite.ValueOf", "(internal/reflectlite.Value).Len"], unfollowed := true, recurses := true, named := ["math/bits.deBruijn32tab"], plainKeys := false, apart := false, laid := [("math/bits.deBruijn32tab", laid_math_bits_deBruijn32tab)] }
def FnExactTripleSquareSaid : Prop := fnExactTripleSquareRow.holds Tryd.pinned (OpenSpec.ofChange fnExactTripleSquareSpec)

/-- ITS FALSE NEIGHBOUR: 'it returns false'. Refute it at one input. -/
def fnExactTripleSquareWrong : ChangeSpec := { name := "fnExactTripleSquare", fn := fun _ => fun
  | [d] => { results := [.lit (.bool false)], args := [d] }
  | _ => none }
def FnExactTripleSquareWrongFalsely : Prop := fnExactTripleSquareRow.holds Tryd.pinned (OpenSpec.ofChange fnExactTripleSquareWrong)

/-- 'laws.FnExactTripleLoop': WHATEVER THE INPUT: true; the input reads as it did. -/
def fnExactTripleLoopSpec : ChangeSpec := { name := "fnExactTripleLoop", fn := fun _ => fun
  | [d] => { results := [.lit (.bool true)], args := [d] }
  | _ => none }
def fnExactTripleLoopRow : OpenClaim := { program := "ytanfodbpgpfjmabdoor", sum := "e7e8ef0dd04550d89924f4aae434326d20683ce570d2abc17876a179e5a31df1", func := "loop.example/g00920/laws.FnExactTripleLoop", spec := "fnExactTripleLoop", inPlace := ["internal/reflectlite.ValueOf", "(internal/reflectlite.Value).Len"], unfollowed := true, recurses := true, named := ["math/bits.deBruijn32tab"], plainKeys := false, apart := false, laid := [("math/bits.deBruijn32tab", laid_math_bits_deBruijn32tab)] }
def FnExactTripleLoopSaid : Prop := fnExactTripleLoopRow.holds Tryd.pinned (OpenSpec.ofChange fnExactTripleLoopSpec)

/-- ITS FALSE NEIGHBOUR: 'it returns false'. Refute it at one input. -/
def fnExactTripleLoopWrong : ChangeSpec := { name := "fnExactTripleLoop", fn := fun _ => fun
  | [d] => { results := [.lit (.bool false)], args := [d] }
  | _ => none }
def FnExactTripleLoopWrongFalsely : Prop := fnExactTripleLoopRow.holds Tryd.pinned (OpenSpec.ofChange fnExactTripleLoopWrong)

/- THE SECOND FORM. 'bulk': how many values and letters a reading holds, each counted each time it is reached (what is shared counts as often as it is met; a slice's spare places count too). A statement '..UptoSaid' is the law's where the arguments, and the package variables that the reading takes, are together of bulk at most 1048576: NARROWER than '..Said'. Prove '..Said' where nothing that the law and all that it calls make is longer than what came in: it says more and counts as full. Else prove '..UptoSaid'. A law counts once. -/
mutual
def uptoBulk {H : Type} : DataW H → Nat
  | .lit (.string bytes) => bytes.length + 1
  | .lit _ => 1
  | .nil => 1
  | .ptr d => uptoBulk d + 1
  | .slice elems spare => uptoBulkAll elems + uptoBulkAll spare + 1
  | .agg parts => uptoBulkAll parts + 1
  | .iface _ d => uptoBulk d + 1
  | .map entries => uptoBulkEntries entries + 1
  | .held _ => 1
def uptoBulkAll {H : Type} : List (DataW H) → Nat
  | [] => 0
  | d :: r => uptoBulk d + uptoBulkAll r
def uptoBulkEntries {H : Type} : List (Lit × DataW H) → Nat
  | [] => 0
  | x :: r => uptoBulkEntry x + uptoBulkEntries r
def uptoBulkEntry {H : Type} : Lit × DataW H → Nat
  | (.string bytes, d) => bytes.length + uptoBulk d + 1
  | (_, d) => uptoBulk d + 1
 end
def uptoSmall : (H : Type) → List (DataW H) → Bool := fun _ ds => decide (uptoBulkAll ds ≤ 1048576)
def OpenSpec.upto (s : _root_.Go.ChangeSpec) : _root_.Go.OpenSpec := { _root_.Go.OpenSpec.ofChange s with cond := some uptoSmall }

/-- 'laws.FnExactIsTripleSystem', WHERE WHAT IT READS IS OF BULK AT MOST 1048576: true; the input reads as it did. -/
def fnExactIsTripleSystemUptoRow : OpenClaim := { program := "ytanfodbpgpfjmabdoor", sum := "e7e8ef0dd04550d89924f4aae434326d20683ce570d2abc17876a179e5a31df1", func := "loop.example/g00920/laws.FnExactIsTripleSystem", spec := "fnExactIsTripleSystem", inPlace := ["internal/reflectlite.ValueOf", "(internal/reflectlite.Value).Len"], unfollowed := true, recurses := true, named := ["math/bits.deBruijn32tab"], plainKeys := false, apart := false, laid := [("math/bits.deBruijn32tab", laid_math_bits_deBruijn32tab)], narrowed := true }
def FnExactIsTripleSystemUptoSaid : Prop := fnExactIsTripleSystemUptoRow.holds Tryd.pinned (OpenSpec.upto fnExactIsTripleSystemSpec)

/-- 'laws.FnExactThirdPoint', WHERE WHAT IT READS IS OF BULK AT MOST 1048576: true; the input reads as it did. -/
def fnExactThirdPointUptoRow : OpenClaim := { program := "ytanfodbpgpfjmabdoor", sum := "e7e8ef0dd04550d89924f4aae434326d20683ce570d2abc17876a179e5a31df1", func := "loop.example/g00920/laws.FnExactThirdPoint", spec := "fnExactThirdPoint", inPlace := ["internal/reflectlite.ValueOf", "(internal/reflectlite.Value).Len"], unfollowed := true, recurses := true, named := ["math/bits.deBruijn32tab"], plainKeys := false, apart := false, laid := [("math/bits.deBruijn32tab", laid_math_bits_deBruijn32tab)], narrowed := true }
def FnExactThirdPointUptoSaid : Prop := fnExactThirdPointUptoRow.holds Tryd.pinned (OpenSpec.upto fnExactThirdPointSpec)

/-- 'laws.FnExactTripleSquare', WHERE WHAT IT READS IS OF BULK AT MOST 1048576: true; the input reads as it did. -/
def fnExactTripleSquareUptoRow : OpenClaim := { program := "ytanfodbpgpfjmabdoor", sum := "e7e8ef0dd04550d89924f4aae434326d20683ce570d2abc17876a179e5a31df1", func := "loop.example/g00920/laws.FnExactTripleSquare", spec := "fnExactTripleSquare", inPlace := ["internal/reflectlite.ValueOf", "(internal/reflectlite.Value).Len"], unfollowed := true, recurses := true, named := ["math/bits.deBruijn32tab"], plainKeys := false, apart := false, laid := [("math/bits.deBruijn32tab", laid_math_bits_deBruijn32tab)], narrowed := true }
def FnExactTripleSquareUptoSaid : Prop := fnExactTripleSquareUptoRow.holds Tryd.pinned (OpenSpec.upto fnExactTripleSquareSpec)

/-- 'laws.FnExactTripleLoop', WHERE WHAT IT READS IS OF BULK AT MOST 1048576: true; the input reads as it did. -/
def fnExactTripleLoopUptoRow : OpenClaim := { program := "ytanfodbpgpfjmabdoor", sum := "e7e8ef0dd04550d89924f4aae434326d20683ce570d2abc17876a179e5a31df1", func := "loop.example/g00920/laws.FnExactTripleLoop", spec := "fnExactTripleLoop", inPlace := ["internal/reflectlite.ValueOf", "(internal/reflectlite.Value).Len"], unfollowed := true, recurses := true, named := ["math/bits.deBruijn32tab"], plainKeys := false, apart := false, laid := [("math/bits.deBruijn32tab", laid_math_bits_deBruijn32tab)], narrowed := true }
def FnExactTripleLoopUptoSaid : Prop := fnExactTripleLoopUptoRow.holds Tryd.pinned (OpenSpec.upto fnExactTripleLoopSpec)

end Rows
end Go.Proofs.YtanfodbpgpfjmabDoor
