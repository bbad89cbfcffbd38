/-
  NARROWER THAN 'FOR EVERY INPUT', by the rows' own cells (each row's printed sentence says how): FnExactAffineOrder: laid · FnExactProjectiveOrder: laid · FnExactParallelClasses: laid · FnExactMolsOfPlane: laid · FnExactSumDesigns: laid.
  DERIVED. THE GIVEN ROWS OF THIS SEAT. 5 by the template 'for every input the law returns true; each argument reads behind the call as it read before'; 0 by the template 'total and deterministic' (their statements: YtdhlnagkhkcoiaaDoorTotals.lean).
  GIVEN WITH THE SEED: the statements are not yours to turn. If you find one false, say at which input.
  Laid BY PROGRAM, IN A SANDBOX (cutbox-rows.mjs): the forced cells as the released guide's own fill.sh prints them over the translation f2e530f15d888a2f… (all of the seat's roots in one cut). By AI agents, Wed Nov 11 2026. No macro, syntax, notation, axiom, sorry.
-/
import Derived.Test.YtdhlnagkhkcoiaaDoorChecked
import GoSem.Claim
import GoSem.ClaimJoined
import GoSem.ClaimMapViews
import Derived.JoinedTies
import Derived.KernelRfl
namespace Go.Proofs.YtdhlnagkhkcoiaaDoor
/- THE CELL 'sum', in the pinned program and in every row, IS THE sha256 OF THE DUMP (.gsa) THAT YtdhlnagkhkcoiaaDoorProg.lean LOADS. Nothing in Lean hashes anything: it is a label: what it is worth is what the hold of that sum in a sandbox is worth. -/
noncomputable def Tryd.pinned : Pinned := { name := "ytdhlnagkhkcoiaadoor", sum := "f2e530f15d888a2f7d86f43bb3d9d0612b262f543af23a27caf47cb9e93d0967", checked := Tryd.checked }
namespace Rows
def none {H : Type} : Left H := { results := [], args := [] }

/- WHAT THE LISTED PACKAGE-LEVEL VARIABLES READ AS WHEN THE CALL BEGINS. Each datum BY PROGRAM (the guide's laid-datum.mjs) off the statement by which the dump's own 'gosem.cut.vars' lays the variable. In a bare row this is a premise. The card (YtdhlnagkhkcoiaaDoorCards.lean) ties it to the program's text. -/
def laid_math_bits_deBruijn32tab {H : Type} : DataW H := .agg [.lit (.int .u8 0), .lit (.int .u8 1), .lit (.int .u8 28), .lit (.int .u8 2), .lit (.int .u8 29), .lit (.int .u8 14), .lit (.int .u8 24), .lit (.int .u8 3), .lit (.int .u8 30), .lit (.int .u8 22), .lit (.int .u8 20), .lit (.int .u8 15), .lit (.int .u8 25), .lit (.int .u8 17), .lit (.int .u8 4), .lit (.int .u8 8), .lit (.int .u8 31), .lit (.int .u8 27), .lit (.int .u8 13), .lit (.int .u8 23), .lit (.int .u8 21), .lit (.int .u8 19), .lit (.int .u8 16), .lit (.int .u8 7), .lit (.int .u8 26), .lit (.int .u8 12), .lit (.int .u8 18), .lit (.int .u8 6), .lit (.int .u8 11), .lit (.int .u8 5), .lit (.int .u8 10), .lit (.int .u8 9)]

/-- 'laws.FnExactAffineOrder': WHATEVER THE INPUT: true; the input reads as it did. -/
def fnExactAffineOrderSpec : ChangeSpec := { name := "fnExactAffineOrder", fn := fun _ => fun
  | [d] => { results := [.lit (.bool true)], args := [d] }
  | _ => none }
def fnExactAffineOrderRow : OpenClaim := { program := "ytdhlnagkhkcoiaadoor", sum := "f2e530f15d888a2f7d86f43bb3d9d0612b262f543af23a27caf47cb9e93d0967", func := "loop.example/g00920/laws.FnExactAffineOrder", spec := "fnExactAffineOrder", inPlace := ["internal/reflectlite.ValueOf", "(internal/reflectlite.Value).Len"], unfollowed := true, recurses := true, named := ["math/bits.deBruijn32tab"], plainKeys := false, apart := false, laid := [("math/bits.deBruijn32tab", laid_math_bits_deBruijn32tab)] }
def FnExactAffineOrderSaid : Prop := fnExactAffineOrderRow.holds Tryd.pinned (OpenSpec.ofChange fnExactAffineOrderSpec)

/-- ITS FALSE NEIGHBOUR: 'it returns false'. Refute it at one input. -/
def fnExactAffineOrderWrong : ChangeSpec := { name := "fnExactAffineOrder", fn := fun _ => fun
  | [d] => { results := [.lit (.bool false)], args := [d] }
  | _ => none }
def FnExactAffineOrderWrongFalsely : Prop := fnExactAffineOrderRow.holds Tryd.pinned (OpenSpec.ofChange fnExactAffineOrderWrong)

/-- 'laws.FnExactProjectiveOrder': WHATEVER THE INPUT: true; the input reads as it did. -/
def fnExactProjectiveOrderSpec : ChangeSpec := { name := "fnExactProjectiveOrder", fn := fun _ => fun
  | [d] => { results := [.lit (.bool true)], args := [d] }
  | _ => none }
def fnExactProjectiveOrderRow : OpenClaim := { program := "ytdhlnagkhkcoiaadoor", sum := "f2e530f15d888a2f7d86f43bb3d9d0612b262f543af23a27caf47cb9e93d0967", func := "loop.example/g00920/laws.FnExactProjectiveOrder", spec := "fnExactProjectiveOrder", inPlace := ["internal/reflectlite.ValueOf", "(internal/reflectlite.Value).Len"], unfollowed := true, recurses := true, named := ["math/bits.deBruijn32tab"], plainKeys := false, apart := false, laid := [("math/bits.deBruijn32tab", laid_math_bits_deBruijn32tab)] }
def FnExactProjectiveOrderSaid : Prop := fnExactProjectiveOrderRow.holds Tryd.pinned (OpenSpec.ofChange fnExactProjectiveOrderSpec)

/-- ITS FALSE NEIGHBOUR: 'it returns false'. Refute it at one input. -/
def fnExactProjectiveOrderWrong : ChangeSpec := { name := "fnExactProjectiveOrder", fn := fun _ => fun
  | [d] => { results := [.lit (.bool false)], args := [d] }
  | _ => none }
def FnExactProjectiveOrderWrongFalsely : Prop := fnExactProjectiveOrderRow.holds Tryd.pinned (OpenSpec.ofChange fnExactProjectiveOrderWrong)

/-- 'laws.FnExactParallelClasses': WHATEVER THE INPUT: true; the input reads as it did. -/
def fnExactParallelClassesSpec : ChangeSpec := { name := "fnExactParallelClasses", fn := fun _ => fun
  | [d] => { results := [.lit (.bool true)], args := [d] }
  | _ => none }
def fnExactParallelClassesRow : OpenClaim := { program := "ytdhlnagkhkcoiaadoor", sum := "f2e530f15d888a2f7d86f43bb3d9d0612b262f543af23a27caf47cb9e93d0967", func := "loop.example/g00920/laws.FnExactParallelClasses", spec := "fnExactParallelClasses", inPlace := ["internal/reflectlite.ValueOf", "(internal/reflectlite.Value).Len"], unfollowed := true, recurses := true, named := ["math/bits.deBruijn32tab"], plainKeys := false, apart := false, laid := [("math/bits.deBruijn32tab", laid_math_bits_deBruijn32tab)] }
def FnExactParallelClassesSaid : Prop := fnExactParallelClassesRow.holds Tryd.pinned (OpenSpec.ofChange fnExactParallelClassesSpec)

/-- ITS FALSE NEIGHBOUR: 'it returns false'. Refute it at one input. -/
def fnExactParallelClassesWrong : ChangeSpec := { name := "fnExactParallelClasses", fn := fun _ => fun
  | [d] => { results := [.lit (.bool false)], args := [d] }
  | _ => none }
def FnExactParallelClassesWrongFalsely : Prop := fnExactParallelClassesRow.holds Tryd.pinned (OpenSpec.ofChange fnExactParallelClassesWrong)

/-- 'laws.FnExactMolsOfPlane': WHATEVER THE INPUT: true; the input reads as it did. -/
def fnExactMolsOfPlaneSpec : ChangeSpec := { name := "fnExactMolsOfPlane", fn := fun _ => fun
  | [d] => { results := [.lit (.bool true)], args := [d] }
  | _ => none }
def fnExactMolsOfPlaneRow : OpenClaim := { program := "ytdhlnagkhkcoiaadoor", sum := "f2e530f15d888a2f7d86f43bb3d9d0612b262f543af23a27caf47cb9e93d0967", func := "loop.example/g00920/laws.FnExactMolsOfPlane", spec := "fnExactMolsOfPlane", inPlace := ["internal/reflectlite.ValueOf", "(internal/reflectlite.Value).Len"], unfollowed := true, recurses := true, named := ["math/bits.deBruijn32tab"], plainKeys := false, apart := false, laid := [("math/bits.deBruijn32tab", laid_math_bits_deBruijn32tab)] }
def FnExactMolsOfPlaneSaid : Prop := fnExactMolsOfPlaneRow.holds Tryd.pinned (OpenSpec.ofChange fnExactMolsOfPlaneSpec)

/-- ITS FALSE NEIGHBOUR: 'it returns false'. Refute it at one input. -/
def fnExactMolsOfPlaneWrong : ChangeSpec := { name := "fnExactMolsOfPlane", fn := fun _ => fun
  | [d] => { results := [.lit (.bool false)], args := [d] }
  | _ => none }
def FnExactMolsOfPlaneWrongFalsely : Prop := fnExactMolsOfPlaneRow.holds Tryd.pinned (OpenSpec.ofChange fnExactMolsOfPlaneWrong)

/-- 'laws.FnExactSumDesigns': WHATEVER THE INPUT: true; the input reads as it did. -/
def fnExactSumDesignsSpec : ChangeSpec := { name := "fnExactSumDesigns", fn := fun _ => fun
  | [d1, d2] => { results := [.lit (.bool true)], args := [d1, d2] }
  | _ => none }
def fnExactSumDesignsRow : OpenClaim := { program := "ytdhlnagkhkcoiaadoor", sum := "f2e530f15d888a2f7d86f43bb3d9d0612b262f543af23a27caf47cb9e93d0967", func := "loop.example/g00920/laws.FnExactSumDesigns", spec := "fnExactSumDesigns", inPlace := ["internal/reflectlite.ValueOf", "(internal/reflectlite.Value).Len", "internal/reflectlite.Swapper"], unfollowed := true, recurses := true, named := ["math/bits.deBruijn32tab"], plainKeys := false, apart := false, laid := [("math/bits.deBruijn32tab", laid_math_bits_deBruijn32tab)] }
def FnExactSumDesignsSaid : Prop := fnExactSumDesignsRow.holds Tryd.pinned (OpenSpec.ofChange fnExactSumDesignsSpec)

/-- ITS FALSE NEIGHBOUR: 'it returns false'. Refute it at one input. -/
def fnExactSumDesignsWrong : ChangeSpec := { name := "fnExactSumDesigns", fn := fun _ => fun
  | [d1, d2] => { results := [.lit (.bool false)], args := [d1, d2] }
  | _ => none }
def FnExactSumDesignsWrongFalsely : Prop := fnExactSumDesignsRow.holds Tryd.pinned (OpenSpec.ofChange fnExactSumDesignsWrong)

/- THE SECOND FORM. 'bulk': how many values and letters a reading holds, each counted each time it is reached (what is shared counts as often as it is met; a slice's spare places count too). A statement '..UptoSaid' is the law's where the arguments, and the package variables that the reading takes, are together of bulk at most 1048576: NARROWER than '..Said'. Prove '..Said' where nothing that the law and all that it calls make is longer than what came in: it says more and counts as full. Else prove '..UptoSaid'. A law counts once. -/
mutual
def uptoBulk {H : Type} : DataW H → Nat
  | .lit (.string bytes) => bytes.length + 1
  | .lit _ => 1
  | .nil => 1
  | .ptr d => uptoBulk d + 1
  | .slice elems spare => uptoBulkAll elems + uptoBulkAll spare + 1
  | .agg parts => uptoBulkAll parts + 1
  | .iface _ d => uptoBulk d + 1
  | .map entries => uptoBulkEntries entries + 1
  | .held _ => 1
def uptoBulkAll {H : Type} : List (DataW H) → Nat
  | [] => 0
  | d :: r => uptoBulk d + uptoBulkAll r
def uptoBulkEntries {H : Type} : List (Lit × DataW H) → Nat
  | [] => 0
  | x :: r => uptoBulkEntry x + uptoBulkEntries r
def uptoBulkEntry {H : Type} : Lit × DataW H → Nat
  | (.string bytes, d) => bytes.length + uptoBulk d + 1
  | (_, d) => uptoBulk d + 1
 end
def uptoSmall : (H : Type) → List (DataW H) → Bool := fun _ ds => decide (uptoBulkAll ds ≤ 1048576)
def OpenSpec.upto (s : _root_.Go.ChangeSpec) : _root_.Go.OpenSpec := { _root_.Go.OpenSpec.ofChange s with cond := some uptoSmall }

/-- 'laws.FnExactAffineOrder', WHERE WHAT IT READS IS OF BULK AT MOST 1048576: true; the input reads as it did. -/
def fnExactAffineOrderUptoRow : OpenClaim := { program := "ytdhlnagkhkcoiaadoor", sum := "f2e530f15d888a2f7d86f43bb3d9d0612b262f543af23a27caf47cb9e93d0967", func := "loop.example/g00920/laws.FnExactAffineOrder", spec := "fnExactAffineOrder", inPlace := ["internal/reflectlite.ValueOf", "(internal/reflectlite.Value).Len"], unfollowed := true, recurses := true, named := ["math/bits.deBruijn32tab"], plainKeys := false, apart := false, laid := [("math/bits.deBruijn32tab", laid_math_bits_deBruijn32tab)], narrowed := true }
def FnExactAffineOrderUptoSaid : Prop := fnExactAffineOrderUptoRow.holds Tryd.pinned (OpenSpec.upto fnExactAffineOrderSpec)

/-- 'laws.FnExactProjectiveOrder', WHERE WHAT IT READS IS OF BULK AT MOST 1048576: true; the input reads as it did. -/
def fnExactProjectiveOrderUptoRow : OpenClaim := { program := "ytdhlnagkhkcoiaadoor", sum := "f2e530f15d888a2f7d86f43bb3d9d0612b262f543af23a27caf47cb9e93d0967", func := "loop.example/g00920/laws.FnExactProjectiveOrder", spec := "fnExactProjectiveOrder", inPlace := ["internal/reflectlite.ValueOf", "(internal/reflectlite.Value).Len"], unfollowed := true, recurses := true, named := ["math/bits.deBruijn32tab"], plainKeys := false, apart := false, laid := [("math/bits.deBruijn32tab", laid_math_bits_deBruijn32tab)], narrowed := true }
def FnExactProjectiveOrderUptoSaid : Prop := fnExactProjectiveOrderUptoRow.holds Tryd.pinned (OpenSpec.upto fnExactProjectiveOrderSpec)

/-- 'laws.FnExactParallelClasses', WHERE WHAT IT READS IS OF BULK AT MOST 1048576: true; the input reads as it did. -/
def fnExactParallelClassesUptoRow : OpenClaim := { program := "ytdhlnagkhkcoiaadoor", sum := "f2e530f15d888a2f7d86f43bb3d9d0612b262f543af23a27caf47cb9e93d0967", func := "loop.example/g00920/laws.FnExactParallelClasses", spec := "fnExactParallelClasses", inPlace := ["internal/reflectlite.ValueOf", "(internal/reflectlite.Value).Len"], unfollowed := true, recurses := true, named := ["math/bits.deBruijn32tab"], plainKeys := false, apart := false, laid := [("math/bits.deBruijn32tab", laid_math_bits_deBruijn32tab)], narrowed := true }
def FnExactParallelClassesUptoSaid : Prop := fnExactParallelClassesUptoRow.holds Tryd.pinned (OpenSpec.upto fnExactParallelClassesSpec)

/-- 'laws.FnExactMolsOfPlane', WHERE WHAT IT READS IS OF BULK AT MOST 1048576: true; the input reads as it did. -/
def fnExactMolsOfPlaneUptoRow : OpenClaim := { program := "ytdhlnagkhkcoiaadoor", sum := "f2e530f15d888a2f7d86f43bb3d9d0612b262f543af23a27caf47cb9e93d0967", func := "loop.example/g00920/laws.FnExactMolsOfPlane", spec := "fnExactMolsOfPlane", inPlace := ["internal/reflectlite.ValueOf", "(internal/reflectlite.Value).Len"], unfollowed := true, recurses := true, named := ["math/bits.deBruijn32tab"], plainKeys := false, apart := false, laid := [("math/bits.deBruijn32tab", laid_math_bits_deBruijn32tab)], narrowed := true }
def FnExactMolsOfPlaneUptoSaid : Prop := fnExactMolsOfPlaneUptoRow.holds Tryd.pinned (OpenSpec.upto fnExactMolsOfPlaneSpec)

/-- 'laws.FnExactSumDesigns', WHERE WHAT IT READS IS OF BULK AT MOST 1048576: true; the input reads as it did. -/
def fnExactSumDesignsUptoRow : OpenClaim := { program := "ytdhlnagkhkcoiaadoor", sum := "f2e530f15d888a2f7d86f43bb3d9d0612b262f543af23a27caf47cb9e93d0967", func := "loop.example/g00920/laws.FnExactSumDesigns", spec := "fnExactSumDesigns", inPlace := ["internal/reflectlite.ValueOf", "(internal/reflectlite.Value).Len", "internal/reflectlite.Swapper"], unfollowed := true, recurses := true, named := ["math/bits.deBruijn32tab"], plainKeys := false, apart := false, laid := [("math/bits.deBruijn32tab", laid_math_bits_deBruijn32tab)], narrowed := true }
def FnExactSumDesignsUptoSaid : Prop := fnExactSumDesignsUptoRow.holds Tryd.pinned (OpenSpec.upto fnExactSumDesignsSpec)

end Rows
end Go.Proofs.YtdhlnagkhkcoiaaDoor
