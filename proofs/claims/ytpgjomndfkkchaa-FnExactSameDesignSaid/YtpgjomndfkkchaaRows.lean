/-
  No cell of these rows narrows 'for every input' (looked for: loops, veiled, ifaces, maps, wideKeys, modest, calm, conditions, laid).
  DERIVED. THE GIVEN ROWS OF THIS SEAT. 3 by the template 'for every input the law returns true; each argument reads behind the call as it read before'; 0 by the template 'total and deterministic' (their statements: YtpgjomndfkkchaaTotals.lean).
  GIVEN WITH THE SEED: the statements are not yours to turn. If you find one false, say at which input.
  Laid BY PROGRAM, IN A SANDBOX (cutbox-rows.mjs): the forced cells as the released guide's own fill.sh prints them over the translation 142226f48ee60198… (all of the seat's roots in one cut). By AI agents, Wed Nov 11 2026. No macro, syntax, notation, axiom, sorry.
-/
import Derived.Test.YtpgjomndfkkchaaChecked
import GoSem.Claim
import GoSem.ClaimJoined
import GoSem.ClaimMapViews
import Derived.JoinedTies
import Derived.KernelRfl
namespace Go.Proofs.Ytpgjomndfkkchaa
/- THE CELL 'sum', in the pinned program and in every row, IS THE sha256 OF THE DUMP (.gsa) THAT YtpgjomndfkkchaaProg.lean LOADS. Nothing in Lean hashes anything: it is a label: what it is worth is what the hold of that sum in a sandbox is worth. -/
noncomputable def Try.pinned : Pinned := { name := "ytpgjomndfkkchaa", sum := "142226f48ee60198b23a8904be281e712a002f2f50cf6d01165936897a279d0c", checked := Try.checked }
namespace Rows
def none {H : Type} : Left H := { results := [], args := [] }

/-- 'laws.FnExactValidDesign': WHATEVER THE INPUT: true; the input reads as it did. -/
def fnExactValidDesignSpec : ChangeSpec := { name := "fnExactValidDesign", fn := fun _ => fun
  | [d] => { results := [.lit (.bool true)], args := [d] }
  | _ => none }
def fnExactValidDesignRow : OpenClaim := { program := "ytpgjomndfkkchaa", sum := "142226f48ee60198b23a8904be281e712a002f2f50cf6d01165936897a279d0c", func := "loop.example/g00920/laws.FnExactValidDesign", spec := "fnExactValidDesign", inPlace := ["internal/reflectlite.ValueOf", "(internal/reflectlite.Value).Len"], unfollowed := true, recurses := true, apart := false }
def FnExactValidDesignSaid : Prop := fnExactValidDesignRow.holds Try.pinned (OpenSpec.ofChange fnExactValidDesignSpec)

/-- ITS FALSE NEIGHBOUR: 'it returns false'. Refute it at one input. -/
def fnExactValidDesignWrong : ChangeSpec := { name := "fnExactValidDesign", fn := fun _ => fun
  | [d] => { results := [.lit (.bool false)], args := [d] }
  | _ => none }
def FnExactValidDesignWrongFalsely : Prop := fnExactValidDesignRow.holds Try.pinned (OpenSpec.ofChange fnExactValidDesignWrong)

/-- 'laws.FnExactSameDesign': WHATEVER THE INPUT: true; the input reads as it did. -/
def fnExactSameDesignSpec : ChangeSpec := { name := "fnExactSameDesign", fn := fun _ => fun
  | [d1, d2] => { results := [.lit (.bool true)], args := [d1, d2] }
  | _ => none }
def fnExactSameDesignRow : OpenClaim := { program := "ytpgjomndfkkchaa", sum := "142226f48ee60198b23a8904be281e712a002f2f50cf6d01165936897a279d0c", func := "loop.example/g00920/laws.FnExactSameDesign", spec := "fnExactSameDesign", unfollowed := true, recurses := true, apart := false }
def FnExactSameDesignSaid : Prop := fnExactSameDesignRow.holds Try.pinned (OpenSpec.ofChange fnExactSameDesignSpec)

/-- ITS FALSE NEIGHBOUR: 'it returns false'. Refute it at one input. -/
def fnExactSameDesignWrong : ChangeSpec := { name := "fnExactSameDesign", fn := fun _ => fun
  | [d1, d2] => { results := [.lit (.bool false)], args := [d1, d2] }
  | _ => none }
def FnExactSameDesignWrongFalsely : Prop := fnExactSameDesignRow.holds Try.pinned (OpenSpec.ofChange fnExactSameDesignWrong)

/-- 'laws.FnExactMeetingsOf': WHATEVER THE INPUT: true; the input reads as it did. -/
def fnExactMeetingsOfSpec : ChangeSpec := { name := "fnExactMeetingsOf", fn := fun _ => fun
  | [d] => { results := [.lit (.bool true)], args := [d] }
  | _ => none }
def fnExactMeetingsOfRow : OpenClaim := { program := "ytpgjomndfkkchaa", sum := "142226f48ee60198b23a8904be281e712a002f2f50cf6d01165936897a279d0c", func := "loop.example/g00920/laws.FnExactMeetingsOf", spec := "fnExactMeetingsOf", inPlace := ["internal/reflectlite.ValueOf", "(internal/reflectlite.Value).Len"], unfollowed := true, recurses := true, apart := false }
def FnExactMeetingsOfSaid : Prop := fnExactMeetingsOfRow.holds Try.pinned (OpenSpec.ofChange fnExactMeetingsOfSpec)

/-- ITS FALSE NEIGHBOUR: 'it returns false'. Refute it at one input. -/
def fnExactMeetingsOfWrong : ChangeSpec := { name := "fnExactMeetingsOf", fn := fun _ => fun
  | [d] => { results := [.lit (.bool false)], args := [d] }
  | _ => none }
def FnExactMeetingsOfWrongFalsely : Prop := fnExactMeetingsOfRow.holds Try.pinned (OpenSpec.ofChange fnExactMeetingsOfWrong)

/- THE SECOND FORM. 'bulk': how many values and letters a reading holds, each counted each time it is reached (what is shared counts as often as it is met; a slice's spare places count too). A statement '..UptoSaid' is the law's where the arguments, and the package variables that the reading takes, are together of bulk at most 1048576: NARROWER than '..Said'. Prove '..Said' where nothing that the law and all that it calls make is longer than what came in: it says more and counts as full. Else prove '..UptoSaid'. A law counts once. -/
mutual
def uptoBulk {H : Type} : DataW H → Nat
  | .lit (.string bytes) => bytes.length + 1
  | .lit _ => 1
  | .nil => 1
  | .ptr d => uptoBulk d + 1
  | .slice elems spare => uptoBulkAll elems + uptoBulkAll spare + 1
  | .agg parts => uptoBulkAll parts + 1
  | .iface _ d => uptoBulk d + 1
  | .map entries => uptoBulkEntries entries + 1
  | .held _ => 1
def uptoBulkAll {H : Type} : List (DataW H) → Nat
  | [] => 0
  | d :: r => uptoBulk d + uptoBulkAll r
def uptoBulkEntries {H : Type} : List (Lit × DataW H) → Nat
  | [] => 0
  | x :: r => uptoBulkEntry x + uptoBulkEntries r
def uptoBulkEntry {H : Type} : Lit × DataW H → Nat
  | (.string bytes, d) => bytes.length + uptoBulk d + 1
  | (_, d) => uptoBulk d + 1
 end
def uptoSmall : (H : Type) → List (DataW H) → Bool := fun _ ds => decide (uptoBulkAll ds ≤ 1048576)
def OpenSpec.upto (s : _root_.Go.ChangeSpec) : _root_.Go.OpenSpec := { _root_.Go.OpenSpec.ofChange s with cond := some uptoSmall }

/-- 'laws.FnExactValidDesign', WHERE WHAT IT READS IS OF BULK AT MOST 1048576: true; the input reads as it did. -/
def fnExactValidDesignUptoRow : OpenClaim := { program := "ytpgjomndfkkchaa", sum := "142226f48ee60198b23a8904be281e712a002f2f50cf6d01165936897a279d0c", func := "loop.example/g00920/laws.FnExactValidDesign", spec := "fnExactValidDesign", inPlace := ["internal/reflectlite.ValueOf", "(internal/reflectlite.Value).Len"], unfollowed := true, recurses := true, apart := false, narrowed := true }
def FnExactValidDesignUptoSaid : Prop := fnExactValidDesignUptoRow.holds Try.pinned (OpenSpec.upto fnExactValidDesignSpec)

/-- 'laws.FnExactSameDesign', WHERE WHAT IT READS IS OF BULK AT MOST 1048576: true; the input reads as it did. -/
def fnExactSameDesignUptoRow : OpenClaim := { program := "ytpgjomndfkkchaa", sum := "142226f48ee60198b23a8904be281e712a002f2f50cf6d01165936897a279d0c", func := "loop.example/g00920/laws.FnExactSameDesign", spec := "fnExactSameDesign", unfollowed := true, recurses := true, apart := false, narrowed := true }
def FnExactSameDesignUptoSaid : Prop := fnExactSameDesignUptoRow.holds Try.pinned (OpenSpec.upto fnExactSameDesignSpec)

/-- 'laws.FnExactMeetingsOf', WHERE WHAT IT READS IS OF BULK AT MOST 1048576: true; the input reads as it did. -/
def fnExactMeetingsOfUptoRow : OpenClaim := { program := "ytpgjomndfkkchaa", sum := "142226f48ee60198b23a8904be281e712a002f2f50cf6d01165936897a279d0c", func := "loop.example/g00920/laws.FnExactMeetingsOf", spec := "fnExactMeetingsOf", inPlace := ["internal/reflectlite.ValueOf", "(internal/reflectlite.Value).Len"], unfollowed := true, recurses := true, apart := false, narrowed := true }
def FnExactMeetingsOfUptoSaid : Prop := fnExactMeetingsOfUptoRow.holds Try.pinned (OpenSpec.upto fnExactMeetingsOfSpec)

end Rows
end Go.Proofs.Ytpgjomndfkkchaa
