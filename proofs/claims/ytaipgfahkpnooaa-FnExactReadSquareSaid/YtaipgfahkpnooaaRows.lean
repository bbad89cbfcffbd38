/-
  No cell of these rows narrows 'for every input' (looked for: loops, veiled, ifaces, maps, wideKeys, modest, calm, conditions, laid).
  DERIVED. THE GIVEN ROWS OF THIS SEAT. 6 by the template 'for every input the law returns true; each argument reads behind the call as it read before'; 0 by the template 'total and deterministic' (their statements: YtaipgfahkpnooaaTotals.lean).
  GIVEN WITH THE SEED: the statements are not yours to turn. If you find one false, say at which input.
  Laid BY PROGRAM, IN A SANDBOX (cutbox-rows.mjs): the forced cells as the released guide's own fill.sh prints them over the translation bc97a36467ee9ed2… (all of the seat's roots in one cut). By AI agents, Wed Nov 11 2026. No macro, syntax, notation, axiom, sorry.
-/
import Derived.Test.YtaipgfahkpnooaaChecked
import GoSem.Claim
import GoSem.ClaimJoined
import GoSem.ClaimMapViews
import Derived.JoinedTies
import Derived.KernelRfl
namespace Go.Proofs.Ytaipgfahkpnooaa
/- THE CELL 'sum', in the pinned program and in every row, IS THE sha256 OF THE DUMP (.gsa) THAT YtaipgfahkpnooaaProg.lean LOADS. Nothing in Lean hashes anything: it is a label: what it is worth is what the hold of that sum in a sandbox is worth. -/
noncomputable def Try.pinned : Pinned := { name := "ytaipgfahkpnooaa", sum := "bc97a36467ee9ed23d77550c33fc98bb1a5887e198093307ca99f0535ea755aa", checked := Try.checked }
namespace Rows
def none {H : Type} : Left H := { results := [], args := [] }

/-- 'laws.FnExactValidPartial': WHATEVER THE INPUT: true; the input reads as it did. -/
def fnExactValidPartialSpec : ChangeSpec := { name := "fnExactValidPartial", fn := fun _ => fun
  | [d] => { results := [.lit (.bool true)], args := [d] }
  | _ => none }
def fnExactValidPartialRow : OpenClaim := { program := "ytaipgfahkpnooaa", sum := "bc97a36467ee9ed23d77550c33fc98bb1a5887e198093307ca99f0535ea755aa", func := "loop.example/g00920/laws.FnExactValidPartial", spec := "fnExactValidPartial", unfollowed := true, recurses := true, apart := false }
def FnExactValidPartialSaid : Prop := fnExactValidPartialRow.holds Try.pinned (OpenSpec.ofChange fnExactValidPartialSpec)

/-- ITS FALSE NEIGHBOUR: 'it returns false'. Refute it at one input. -/
def fnExactValidPartialWrong : ChangeSpec := { name := "fnExactValidPartial", fn := fun _ => fun
  | [d] => { results := [.lit (.bool false)], args := [d] }
  | _ => none }
def FnExactValidPartialWrongFalsely : Prop := fnExactValidPartialRow.holds Try.pinned (OpenSpec.ofChange fnExactValidPartialWrong)

/-- 'laws.FnExactFilledCells': WHATEVER THE INPUT: true; the input reads as it did. -/
def fnExactFilledCellsSpec : ChangeSpec := { name := "fnExactFilledCells", fn := fun _ => fun
  | [d] => { results := [.lit (.bool true)], args := [d] }
  | _ => none }
def fnExactFilledCellsRow : OpenClaim := { program := "ytaipgfahkpnooaa", sum := "bc97a36467ee9ed23d77550c33fc98bb1a5887e198093307ca99f0535ea755aa", func := "loop.example/g00920/laws.FnExactFilledCells", spec := "fnExactFilledCells", unfollowed := true, recurses := true, apart := false }
def FnExactFilledCellsSaid : Prop := fnExactFilledCellsRow.holds Try.pinned (OpenSpec.ofChange fnExactFilledCellsSpec)

/-- ITS FALSE NEIGHBOUR: 'it returns false'. Refute it at one input. -/
def fnExactFilledCellsWrong : ChangeSpec := { name := "fnExactFilledCells", fn := fun _ => fun
  | [d] => { results := [.lit (.bool false)], args := [d] }
  | _ => none }
def FnExactFilledCellsWrongFalsely : Prop := fnExactFilledCellsRow.holds Try.pinned (OpenSpec.ofChange fnExactFilledCellsWrong)

/-- 'laws.FnExactClearCells': WHATEVER THE INPUT: true; the input reads as it did. -/
def fnExactClearCellsSpec : ChangeSpec := { name := "fnExactClearCells", fn := fun _ => fun
  | [d1, d2] => { results := [.lit (.bool true)], args := [d1, d2] }
  | _ => none }
def fnExactClearCellsRow : OpenClaim := { program := "ytaipgfahkpnooaa", sum := "bc97a36467ee9ed23d77550c33fc98bb1a5887e198093307ca99f0535ea755aa", func := "loop.example/g00920/laws.FnExactClearCells", spec := "fnExactClearCells", unfollowed := true, recurses := true, apart := false }
def FnExactClearCellsSaid : Prop := fnExactClearCellsRow.holds Try.pinned (OpenSpec.ofChange fnExactClearCellsSpec)

/-- ITS FALSE NEIGHBOUR: 'it returns false'. Refute it at one input. -/
def fnExactClearCellsWrong : ChangeSpec := { name := "fnExactClearCells", fn := fun _ => fun
  | [d1, d2] => { results := [.lit (.bool false)], args := [d1, d2] }
  | _ => none }
def FnExactClearCellsWrongFalsely : Prop := fnExactClearCellsRow.holds Try.pinned (OpenSpec.ofChange fnExactClearCellsWrong)

/-- 'laws.FnExactFillCell': WHATEVER THE INPUT: true; the input reads as it did. -/
def fnExactFillCellSpec : ChangeSpec := { name := "fnExactFillCell", fn := fun _ => fun
  | [d1, d2, d3, d4] => { results := [.lit (.bool true)], args := [d1, d2, d3, d4] }
  | _ => none }
def fnExactFillCellRow : OpenClaim := { program := "ytaipgfahkpnooaa", sum := "bc97a36467ee9ed23d77550c33fc98bb1a5887e198093307ca99f0535ea755aa", func := "loop.example/g00920/laws.FnExactFillCell", spec := "fnExactFillCell", unfollowed := true, recurses := true, apart := false }
def FnExactFillCellSaid : Prop := fnExactFillCellRow.holds Try.pinned (OpenSpec.ofChange fnExactFillCellSpec)

/-- ITS FALSE NEIGHBOUR: 'it returns false'. Refute it at one input. -/
def fnExactFillCellWrong : ChangeSpec := { name := "fnExactFillCell", fn := fun _ => fun
  | [d1, d2, d3, d4] => { results := [.lit (.bool false)], args := [d1, d2, d3, d4] }
  | _ => none }
def FnExactFillCellWrongFalsely : Prop := fnExactFillCellRow.holds Try.pinned (OpenSpec.ofChange fnExactFillCellWrong)

/-- 'laws.FnExactReadPartial': WHATEVER THE INPUT: true; the input reads as it did. -/
def fnExactReadPartialSpec : ChangeSpec := { name := "fnExactReadPartial", fn := fun _ => fun
  | [d] => { results := [.lit (.bool true)], args := [d] }
  | _ => none }
def fnExactReadPartialRow : OpenClaim := { program := "ytaipgfahkpnooaa", sum := "bc97a36467ee9ed23d77550c33fc98bb1a5887e198093307ca99f0535ea755aa", func := "loop.example/g00920/laws.FnExactReadPartial", spec := "fnExactReadPartial", unfollowed := true, recurses := true, apart := false }
def FnExactReadPartialSaid : Prop := fnExactReadPartialRow.holds Try.pinned (OpenSpec.ofChange fnExactReadPartialSpec)

/-- ITS FALSE NEIGHBOUR: 'it returns false'. Refute it at one input. -/
def fnExactReadPartialWrong : ChangeSpec := { name := "fnExactReadPartial", fn := fun _ => fun
  | [d] => { results := [.lit (.bool false)], args := [d] }
  | _ => none }
def FnExactReadPartialWrongFalsely : Prop := fnExactReadPartialRow.holds Try.pinned (OpenSpec.ofChange fnExactReadPartialWrong)

/-- 'laws.FnExactReadSquare': WHATEVER THE INPUT: true; the input reads as it did. -/
def fnExactReadSquareSpec : ChangeSpec := { name := "fnExactReadSquare", fn := fun _ => fun
  | [d] => { results := [.lit (.bool true)], args := [d] }
  | _ => none }
def fnExactReadSquareRow : OpenClaim := { program := "ytaipgfahkpnooaa", sum := "bc97a36467ee9ed23d77550c33fc98bb1a5887e198093307ca99f0535ea755aa", func := "loop.example/g00920/laws.FnExactReadSquare", spec := "fnExactReadSquare", unfollowed := true, recurses := true, apart := false }
def FnExactReadSquareSaid : Prop := fnExactReadSquareRow.holds Try.pinned (OpenSpec.ofChange fnExactReadSquareSpec)

/-- ITS FALSE NEIGHBOUR: 'it returns false'. Refute it at one input. -/
def fnExactReadSquareWrong : ChangeSpec := { name := "fnExactReadSquare", fn := fun _ => fun
  | [d] => { results := [.lit (.bool false)], args := [d] }
  | _ => none }
def FnExactReadSquareWrongFalsely : Prop := fnExactReadSquareRow.holds Try.pinned (OpenSpec.ofChange fnExactReadSquareWrong)

/- THE SECOND FORM. 'bulk': how many values and letters a reading holds, each counted each time it is reached (what is shared counts as often as it is met; a slice's spare places count too). A statement '..UptoSaid' is the law's where the arguments, and the package variables that the reading takes, are together of bulk at most 1048576: NARROWER than '..Said'. Prove '..Said' where nothing that the law and all that it calls make is longer than what came in: it says more and counts as full. Else prove '..UptoSaid'. A law counts once. -/
mutual
def uptoBulk {H : Type} : DataW H → Nat
  | .lit (.string bytes) => bytes.length + 1
  | .lit _ => 1
  | .nil => 1
  | .ptr d => uptoBulk d + 1
  | .slice elems spare => uptoBulkAll elems + uptoBulkAll spare + 1
  | .agg parts => uptoBulkAll parts + 1
  | .iface _ d => uptoBulk d + 1
  | .map entries => uptoBulkEntries entries + 1
  | .held _ => 1
def uptoBulkAll {H : Type} : List (DataW H) → Nat
  | [] => 0
  | d :: r => uptoBulk d + uptoBulkAll r
def uptoBulkEntries {H : Type} : List (Lit × DataW H) → Nat
  | [] => 0
  | x :: r => uptoBulkEntry x + uptoBulkEntries r
def uptoBulkEntry {H : Type} : Lit × DataW H → Nat
  | (.string bytes, d) => bytes.length + uptoBulk d + 1
  | (_, d) => uptoBulk d + 1
 end
def uptoSmall : (H : Type) → List (DataW H) → Bool := fun _ ds => decide (uptoBulkAll ds ≤ 1048576)
def OpenSpec.upto (s : _root_.Go.ChangeSpec) : _root_.Go.OpenSpec := { _root_.Go.OpenSpec.ofChange s with cond := some uptoSmall }

/-- 'laws.FnExactValidPartial', WHERE WHAT IT READS IS OF BULK AT MOST 1048576: true; the input reads as it did. -/
def fnExactValidPartialUptoRow : OpenClaim := { program := "ytaipgfahkpnooaa", sum := "bc97a36467ee9ed23d77550c33fc98bb1a5887e198093307ca99f0535ea755aa", func := "loop.example/g00920/laws.FnExactValidPartial", spec := "fnExactValidPartial", unfollowed := true, recurses := true, apart := false, narrowed := true }
def FnExactValidPartialUptoSaid : Prop := fnExactValidPartialUptoRow.holds Try.pinned (OpenSpec.upto fnExactValidPartialSpec)

/-- 'laws.FnExactFilledCells', WHERE WHAT IT READS IS OF BULK AT MOST 1048576: true; the input reads as it did. -/
def fnExactFilledCellsUptoRow : OpenClaim := { program := "ytaipgfahkpnooaa", sum := "bc97a36467ee9ed23d77550c33fc98bb1a5887e198093307ca99f0535ea755aa", func := "loop.example/g00920/laws.FnExactFilledCells", spec := "fnExactFilledCells", unfollowed := true, recurses := true, apart := false, narrowed := true }
def FnExactFilledCellsUptoSaid : Prop := fnExactFilledCellsUptoRow.holds Try.pinned (OpenSpec.upto fnExactFilledCellsSpec)

/-- 'laws.FnExactClearCells', WHERE WHAT IT READS IS OF BULK AT MOST 1048576: true; the input reads as it did. -/
def fnExactClearCellsUptoRow : OpenClaim := { program := "ytaipgfahkpnooaa", sum := "bc97a36467ee9ed23d77550c33fc98bb1a5887e198093307ca99f0535ea755aa", func := "loop.example/g00920/laws.FnExactClearCells", spec := "fnExactClearCells", unfollowed := true, recurses := true, apart := false, narrowed := true }
def FnExactClearCellsUptoSaid : Prop := fnExactClearCellsUptoRow.holds Try.pinned (OpenSpec.upto fnExactClearCellsSpec)

/-- 'laws.FnExactFillCell', WHERE WHAT IT READS IS OF BULK AT MOST 1048576: true; the input reads as it did. -/
def fnExactFillCellUptoRow : OpenClaim := { program := "ytaipgfahkpnooaa", sum := "bc97a36467ee9ed23d77550c33fc98bb1a5887e198093307ca99f0535ea755aa", func := "loop.example/g00920/laws.FnExactFillCell", spec := "fnExactFillCell", unfollowed := true, recurses := true, apart := false, narrowed := true }
def FnExactFillCellUptoSaid : Prop := fnExactFillCellUptoRow.holds Try.pinned (OpenSpec.upto fnExactFillCellSpec)

/-- 'laws.FnExactReadPartial', WHERE WHAT IT READS IS OF BULK AT MOST 1048576: true; the input reads as it did. -/
def fnExactReadPartialUptoRow : OpenClaim := { program := "ytaipgfahkpnooaa", sum := "bc97a36467ee9ed23d77550c33fc98bb1a5887e198093307ca99f0535ea755aa", func := "loop.example/g00920/laws.FnExactReadPartial", spec := "fnExactReadPartial", unfollowed := true, recurses := true, apart := false, narrowed := true }
def FnExactReadPartialUptoSaid : Prop := fnExactReadPartialUptoRow.holds Try.pinned (OpenSpec.upto fnExactReadPartialSpec)

/-- 'laws.FnExactReadSquare', WHERE WHAT IT READS IS OF BULK AT MOST 1048576: true; the input reads as it did. -/
def fnExactReadSquareUptoRow : OpenClaim := { program := "ytaipgfahkpnooaa", sum := "bc97a36467ee9ed23d77550c33fc98bb1a5887e198093307ca99f0535ea755aa", func := "loop.example/g00920/laws.FnExactReadSquare", spec := "fnExactReadSquare", unfollowed := true, recurses := true, apart := false, narrowed := true }
def FnExactReadSquareUptoSaid : Prop := fnExactReadSquareUptoRow.holds Try.pinned (OpenSpec.upto fnExactReadSquareSpec)

end Rows
end Go.Proofs.Ytaipgfahkpnooaa
