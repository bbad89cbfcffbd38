/-
  No cell of these rows narrows 'for every input' (looked for: loops, veiled, ifaces, maps, wideKeys, modest, calm, conditions, laid).
  DERIVED. THE GIVEN ROWS OF THIS SEAT. 4 by the template 'for every input the law returns true; each argument reads behind the call as it read before'; 0 by the template 'total and deterministic' (their statements: YtigcgpgkpkoodabTotals.lean).
  GIVEN WITH THE SEED: the statements are not yours to turn. If you find one false, say at which input.
  Laid BY PROGRAM, IN A SANDBOX (cutbox-rows.mjs): the forced cells as the released guide's own fill.sh prints them over the translation 2068219ccaef6ff8… (all of the seat's roots in one cut). By AI agents, Wed Nov 11 2026. No macro, syntax, notation, axiom, sorry.
-/
import Derived.Test.YtigcgpgkpkoodabChecked
import GoSem.Claim
import GoSem.ClaimJoined
import GoSem.ClaimMapViews
import Derived.JoinedTies
import Derived.KernelRfl
namespace Go.Proofs.Ytigcgpgkpkoodab
/- THE CELL 'sum', in the pinned program and in every row, IS THE sha256 OF THE DUMP (.gsa) THAT YtigcgpgkpkoodabProg.lean LOADS. Nothing in Lean hashes anything: it is a label: what it is worth is what the hold of that sum in a sandbox is worth. -/
noncomputable def Try.pinned : Pinned := { name := "ytigcgpgkpkoodab", sum := "2068219ccaef6ff8705c00749d2433797bc272c3ab8bf4245716325c54a1a8f2", checked := Try.checked }
namespace Rows
def none {H : Type} : Left H := { results := [], args := [] }

/-- 'laws.FnExactIdentitiesOf': WHATEVER THE INPUT: true; the input reads as it did. -/
def fnExactIdentitiesOfSpec : ChangeSpec := { name := "fnExactIdentitiesOf", fn := fun _ => fun
  | [d] => { results := [.lit (.bool true)], args := [d] }
  | _ => none }
def fnExactIdentitiesOfRow : OpenClaim := { program := "ytigcgpgkpkoodab", sum := "2068219ccaef6ff8705c00749d2433797bc272c3ab8bf4245716325c54a1a8f2", func := "loop.example/g00920/laws.FnExactIdentitiesOf", spec := "fnExactIdentitiesOf", unfollowed := true, recurses := true, apart := false }
def FnExactIdentitiesOfSaid : Prop := fnExactIdentitiesOfRow.holds Try.pinned (OpenSpec.ofChange fnExactIdentitiesOfSpec)

/-- ITS FALSE NEIGHBOUR: 'it returns false'. Refute it at one input. -/
def fnExactIdentitiesOfWrong : ChangeSpec := { name := "fnExactIdentitiesOf", fn := fun _ => fun
  | [d] => { results := [.lit (.bool false)], args := [d] }
  | _ => none }
def FnExactIdentitiesOfWrongFalsely : Prop := fnExactIdentitiesOfRow.holds Try.pinned (OpenSpec.ofChange fnExactIdentitiesOfWrong)

/-- 'laws.FnExactSwitchIntercalate': WHATEVER THE INPUT: true; the input reads as it did. -/
def fnExactSwitchIntercalateSpec : ChangeSpec := { name := "fnExactSwitchIntercalate", fn := fun _ => fun
  | [d1, d2] => { results := [.lit (.bool true)], args := [d1, d2] }
  | _ => none }
def fnExactSwitchIntercalateRow : OpenClaim := { program := "ytigcgpgkpkoodab", sum := "2068219ccaef6ff8705c00749d2433797bc272c3ab8bf4245716325c54a1a8f2", func := "loop.example/g00920/laws.FnExactSwitchIntercalate", spec := "fnExactSwitchIntercalate", unfollowed := true, recurses := true, apart := false }
def FnExactSwitchIntercalateSaid : Prop := fnExactSwitchIntercalateRow.holds Try.pinned (OpenSpec.ofChange fnExactSwitchIntercalateSpec)

/-- ITS FALSE NEIGHBOUR: 'it returns false'. Refute it at one input. -/
def fnExactSwitchIntercalateWrong : ChangeSpec := { name := "fnExactSwitchIntercalate", fn := fun _ => fun
  | [d1, d2] => { results := [.lit (.bool false)], args := [d1, d2] }
  | _ => none }
def FnExactSwitchIntercalateWrongFalsely : Prop := fnExactSwitchIntercalateRow.holds Try.pinned (OpenSpec.ofChange fnExactSwitchIntercalateWrong)

/-- 'laws.FnExactParitiesOf': WHATEVER THE INPUT: true; the input reads as it did. -/
def fnExactParitiesOfSpec : ChangeSpec := { name := "fnExactParitiesOf", fn := fun _ => fun
  | [d] => { results := [.lit (.bool true)], args := [d] }
  | _ => none }
def fnExactParitiesOfRow : OpenClaim := { program := "ytigcgpgkpkoodab", sum := "2068219ccaef6ff8705c00749d2433797bc272c3ab8bf4245716325c54a1a8f2", func := "loop.example/g00920/laws.FnExactParitiesOf", spec := "fnExactParitiesOf", unfollowed := true, recurses := true, apart := false }
def FnExactParitiesOfSaid : Prop := fnExactParitiesOfRow.holds Try.pinned (OpenSpec.ofChange fnExactParitiesOfSpec)

/-- ITS FALSE NEIGHBOUR: 'it returns false'. Refute it at one input. -/
def fnExactParitiesOfWrong : ChangeSpec := { name := "fnExactParitiesOf", fn := fun _ => fun
  | [d] => { results := [.lit (.bool false)], args := [d] }
  | _ => none }
def FnExactParitiesOfWrongFalsely : Prop := fnExactParitiesOfRow.holds Try.pinned (OpenSpec.ofChange fnExactParitiesOfWrong)

/-- 'laws.FnExactFilledCells': WHATEVER THE INPUT: true; the input reads as it did. -/
def fnExactFilledCellsSpec : ChangeSpec := { name := "fnExactFilledCells", fn := fun _ => fun
  | [d] => { results := [.lit (.bool true)], args := [d] }
  | _ => none }
def fnExactFilledCellsRow : OpenClaim := { program := "ytigcgpgkpkoodab", sum := "2068219ccaef6ff8705c00749d2433797bc272c3ab8bf4245716325c54a1a8f2", func := "loop.example/g00920/laws.FnExactFilledCells", spec := "fnExactFilledCells", unfollowed := true, recurses := true, apart := false }
def FnExactFilledCellsSaid : Prop := fnExactFilledCellsRow.holds Try.pinned (OpenSpec.ofChange fnExactFilledCellsSpec)

/-- ITS FALSE NEIGHBOUR: 'it returns false'. Refute it at one input. -/
def fnExactFilledCellsWrong : ChangeSpec := { name := "fnExactFilledCells", fn := fun _ => fun
  | [d] => { results := [.lit (.bool false)], args := [d] }
  | _ => none }
def FnExactFilledCellsWrongFalsely : Prop := fnExactFilledCellsRow.holds Try.pinned (OpenSpec.ofChange fnExactFilledCellsWrong)

/- THE SECOND FORM. 'bulk': how many values and letters a reading holds, each counted each time it is reached (what is shared counts as often as it is met; a slice's spare places count too). A statement '..UptoSaid' is the law's where the arguments, and the package variables that the reading takes, are together of bulk at most 1048576: NARROWER than '..Said'. Prove '..Said' where nothing that the law and all that it calls make is longer than what came in: it says more and counts as full. Else prove '..UptoSaid'. A law counts once. -/
mutual
def uptoBulk {H : Type} : DataW H → Nat
  | .lit (.string bytes) => bytes.length + 1
  | .lit _ => 1
  | .nil => 1
  | .ptr d => uptoBulk d + 1
  | .slice elems spare => uptoBulkAll elems + uptoBulkAll spare + 1
  | .agg parts => uptoBulkAll parts + 1
  | .iface _ d => uptoBulk d + 1
  | .map entries => uptoBulkEntries entries + 1
  | .held _ => 1
def uptoBulkAll {H : Type} : List (DataW H) → Nat
  | [] => 0
  | d :: r => uptoBulk d + uptoBulkAll r
def uptoBulkEntries {H : Type} : List (Lit × DataW H) → Nat
  | [] => 0
  | x :: r => uptoBulkEntry x + uptoBulkEntries r
def uptoBulkEntry {H : Type} : Lit × DataW H → Nat
  | (.string bytes, d) => bytes.length + uptoBulk d + 1
  | (_, d) => uptoBulk d + 1
 end
def uptoSmall : (H : Type) → List (DataW H) → Bool := fun _ ds => decide (uptoBulkAll ds ≤ 1048576)
def OpenSpec.upto (s : _root_.Go.ChangeSpec) : _root_.Go.OpenSpec := { _root_.Go.OpenSpec.ofChange s with cond := some uptoSmall }

/-- 'laws.FnExactIdentitiesOf', WHERE WHAT IT READS IS OF BULK AT MOST 1048576: true; the input reads as it did. -/
def fnExactIdentitiesOfUptoRow : OpenClaim := { program := "ytigcgpgkpkoodab", sum := "2068219ccaef6ff8705c00749d2433797bc272c3ab8bf4245716325c54a1a8f2", func := "loop.example/g00920/laws.FnExactIdentitiesOf", spec := "fnExactIdentitiesOf", unfollowed := true, recurses := true, apart := false, narrowed := true }
def FnExactIdentitiesOfUptoSaid : Prop := fnExactIdentitiesOfUptoRow.holds Try.pinned (OpenSpec.upto fnExactIdentitiesOfSpec)

/-- 'laws.FnExactSwitchIntercalate', WHERE WHAT IT READS IS OF BULK AT MOST 1048576: true; the input reads as it did. -/
def fnExactSwitchIntercalateUptoRow : OpenClaim := { program := "ytigcgpgkpkoodab", sum := "2068219ccaef6ff8705c00749d2433797bc272c3ab8bf4245716325c54a1a8f2", func := "loop.example/g00920/laws.FnExactSwitchIntercalate", spec := "fnExactSwitchIntercalate", unfollowed := true, recurses := true, apart := false, narrowed := true }
def FnExactSwitchIntercalateUptoSaid : Prop := fnExactSwitchIntercalateUptoRow.holds Try.pinned (OpenSpec.upto fnExactSwitchIntercalateSpec)

/-- 'laws.FnExactParitiesOf', WHERE WHAT IT READS IS OF BULK AT MOST 1048576: true; the input reads as it did. -/
def fnExactParitiesOfUptoRow : OpenClaim := { program := "ytigcgpgkpkoodab", sum := "2068219ccaef6ff8705c00749d2433797bc272c3ab8bf4245716325c54a1a8f2", func := "loop.example/g00920/laws.FnExactParitiesOf", spec := "fnExactParitiesOf", unfollowed := true, recurses := true, apart := false, narrowed := true }
def FnExactParitiesOfUptoSaid : Prop := fnExactParitiesOfUptoRow.holds Try.pinned (OpenSpec.upto fnExactParitiesOfSpec)

/-- 'laws.FnExactFilledCells', WHERE WHAT IT READS IS OF BULK AT MOST 1048576: true; the input reads as it did. -/
def fnExactFilledCellsUptoRow : OpenClaim := { program := "ytigcgpgkpkoodab", sum := "2068219ccaef6ff8705c00749d2433797bc272c3ab8bf4245716325c54a1a8f2", func := "loop.example/g00920/laws.FnExactFilledCells", spec := "fnExactFilledCells", unfollowed := true, recurses := true, apart := false, narrowed := true }
def FnExactFilledCellsUptoSaid : Prop := fnExactFilledCellsUptoRow.holds Try.pinned (OpenSpec.upto fnExactFilledCellsSpec)

end Rows
end Go.Proofs.Ytigcgpgkpkoodab
