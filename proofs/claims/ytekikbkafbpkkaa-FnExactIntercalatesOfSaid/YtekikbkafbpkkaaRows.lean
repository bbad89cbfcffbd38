/-
  No cell of these rows narrows 'for every input' (looked for: loops, veiled, ifaces, maps, wideKeys, modest, calm, conditions, laid).
  DERIVED. THE GIVEN ROWS OF THIS SEAT. 8 by the template 'for every input the law returns true; each argument reads behind the call as it read before'; 0 by the template 'total and deterministic' (their statements: YtekikbkafbpkkaaTotals.lean).
  GIVEN WITH THE SEED: the statements are not yours to turn. If you find one false, say at which input.
  Laid BY PROGRAM, IN A SANDBOX (cutbox-rows.mjs): the forced cells as the released guide's own fill.sh prints them over the translation 668b20be5e059685… (all of the seat's roots in one cut). By AI agents, Wed Nov 11 2026. No macro, syntax, notation, axiom, sorry.
-/
import Derived.Test.YtekikbkafbpkkaaChecked
import GoSem.Claim
import GoSem.ClaimJoined
import GoSem.ClaimMapViews
import Derived.JoinedTies
import Derived.KernelRfl
namespace Go.Proofs.Ytekikbkafbpkkaa
/- THE CELL 'sum', in the pinned program and in every row, IS THE sha256 OF THE DUMP (.gsa) THAT YtekikbkafbpkkaaProg.lean LOADS. Nothing in Lean hashes anything: it is a label: what it is worth is what the hold of that sum in a sandbox is worth. -/
noncomputable def Try.pinned : Pinned := { name := "ytekikbkafbpkkaa", sum := "668b20be5e0596852a0099eda07a2c41193739234a897f3aa1f8768111758c62", checked := Try.checked }
namespace Rows
def none {H : Type} : Left H := { results := [], args := [] }

/-- 'laws.FnExactIdentityName': WHATEVER THE INPUT: true; the input reads as it did. -/
def fnExactIdentityNameSpec : ChangeSpec := { name := "fnExactIdentityName", fn := fun _ => fun
  | [d] => { results := [.lit (.bool true)], args := [d] }
  | _ => none }
def fnExactIdentityNameRow : OpenClaim := { program := "ytekikbkafbpkkaa", sum := "668b20be5e0596852a0099eda07a2c41193739234a897f3aa1f8768111758c62", func := "loop.example/g00920/laws.FnExactIdentityName", spec := "fnExactIdentityName", apart := false }
def FnExactIdentityNameSaid : Prop := fnExactIdentityNameRow.holds Try.pinned (OpenSpec.ofChange fnExactIdentityNameSpec)

/-- ITS FALSE NEIGHBOUR: 'it returns false'. Refute it at one input. -/
def fnExactIdentityNameWrong : ChangeSpec := { name := "fnExactIdentityName", fn := fun _ => fun
  | [d] => { results := [.lit (.bool false)], args := [d] }
  | _ => none }
def FnExactIdentityNameWrongFalsely : Prop := fnExactIdentityNameRow.holds Try.pinned (OpenSpec.ofChange fnExactIdentityNameWrong)

/-- 'laws.FnExactRowMap': WHATEVER THE INPUT: true; the input reads as it did. -/
def fnExactRowMapSpec : ChangeSpec := { name := "fnExactRowMap", fn := fun _ => fun
  | [d1, d2, d3] => { results := [.lit (.bool true)], args := [d1, d2, d3] }
  | _ => none }
def fnExactRowMapRow : OpenClaim := { program := "ytekikbkafbpkkaa", sum := "668b20be5e0596852a0099eda07a2c41193739234a897f3aa1f8768111758c62", func := "loop.example/g00920/laws.FnExactRowMap", spec := "fnExactRowMap", unfollowed := true, recurses := true, apart := false }
def FnExactRowMapSaid : Prop := fnExactRowMapRow.holds Try.pinned (OpenSpec.ofChange fnExactRowMapSpec)

/-- ITS FALSE NEIGHBOUR: 'it returns false'. Refute it at one input. -/
def fnExactRowMapWrong : ChangeSpec := { name := "fnExactRowMap", fn := fun _ => fun
  | [d1, d2, d3] => { results := [.lit (.bool false)], args := [d1, d2, d3] }
  | _ => none }
def FnExactRowMapWrongFalsely : Prop := fnExactRowMapRow.holds Try.pinned (OpenSpec.ofChange fnExactRowMapWrong)

/-- 'laws.FnExactUnitOf': WHATEVER THE INPUT: true; the input reads as it did. -/
def fnExactUnitOfSpec : ChangeSpec := { name := "fnExactUnitOf", fn := fun _ => fun
  | [d] => { results := [.lit (.bool true)], args := [d] }
  | _ => none }
def fnExactUnitOfRow : OpenClaim := { program := "ytekikbkafbpkkaa", sum := "668b20be5e0596852a0099eda07a2c41193739234a897f3aa1f8768111758c62", func := "loop.example/g00920/laws.FnExactUnitOf", spec := "fnExactUnitOf", unfollowed := true, recurses := true, apart := false }
def FnExactUnitOfSaid : Prop := fnExactUnitOfRow.holds Try.pinned (OpenSpec.ofChange fnExactUnitOfSpec)

/-- ITS FALSE NEIGHBOUR: 'it returns false'. Refute it at one input. -/
def fnExactUnitOfWrong : ChangeSpec := { name := "fnExactUnitOf", fn := fun _ => fun
  | [d] => { results := [.lit (.bool false)], args := [d] }
  | _ => none }
def FnExactUnitOfWrongFalsely : Prop := fnExactUnitOfRow.holds Try.pinned (OpenSpec.ofChange fnExactUnitOfWrong)

/-- 'laws.FnExactIsGroupBased': WHATEVER THE INPUT: true; the input reads as it did. -/
def fnExactIsGroupBasedSpec : ChangeSpec := { name := "fnExactIsGroupBased", fn := fun _ => fun
  | [d] => { results := [.lit (.bool true)], args := [d] }
  | _ => none }
def fnExactIsGroupBasedRow : OpenClaim := { program := "ytekikbkafbpkkaa", sum := "668b20be5e0596852a0099eda07a2c41193739234a897f3aa1f8768111758c62", func := "loop.example/g00920/laws.FnExactIsGroupBased", spec := "fnExactIsGroupBased", unfollowed := true, recurses := true, apart := false }
def FnExactIsGroupBasedSaid : Prop := fnExactIsGroupBasedRow.holds Try.pinned (OpenSpec.ofChange fnExactIsGroupBasedSpec)

/-- ITS FALSE NEIGHBOUR: 'it returns false'. Refute it at one input. -/
def fnExactIsGroupBasedWrong : ChangeSpec := { name := "fnExactIsGroupBased", fn := fun _ => fun
  | [d] => { results := [.lit (.bool false)], args := [d] }
  | _ => none }
def FnExactIsGroupBasedWrongFalsely : Prop := fnExactIsGroupBasedRow.holds Try.pinned (OpenSpec.ofChange fnExactIsGroupBasedWrong)

/-- 'laws.FnExactIdentitiesOf': WHATEVER THE INPUT: true; the input reads as it did. -/
def fnExactIdentitiesOfSpec : ChangeSpec := { name := "fnExactIdentitiesOf", fn := fun _ => fun
  | [d] => { results := [.lit (.bool true)], args := [d] }
  | _ => none }
def fnExactIdentitiesOfRow : OpenClaim := { program := "ytekikbkafbpkkaa", sum := "668b20be5e0596852a0099eda07a2c41193739234a897f3aa1f8768111758c62", func := "loop.example/g00920/laws.FnExactIdentitiesOf", spec := "fnExactIdentitiesOf", unfollowed := true, recurses := true, apart := false }
def FnExactIdentitiesOfSaid : Prop := fnExactIdentitiesOfRow.holds Try.pinned (OpenSpec.ofChange fnExactIdentitiesOfSpec)

/-- ITS FALSE NEIGHBOUR: 'it returns false'. Refute it at one input. -/
def fnExactIdentitiesOfWrong : ChangeSpec := { name := "fnExactIdentitiesOf", fn := fun _ => fun
  | [d] => { results := [.lit (.bool false)], args := [d] }
  | _ => none }
def FnExactIdentitiesOfWrongFalsely : Prop := fnExactIdentitiesOfRow.holds Try.pinned (OpenSpec.ofChange fnExactIdentitiesOfWrong)

/-- 'laws.FnExactIntercalatesOf': WHATEVER THE INPUT: true; the input reads as it did. -/
def fnExactIntercalatesOfSpec : ChangeSpec := { name := "fnExactIntercalatesOf", fn := fun _ => fun
  | [d] => { results := [.lit (.bool true)], args := [d] }
  | _ => none }
def fnExactIntercalatesOfRow : OpenClaim := { program := "ytekikbkafbpkkaa", sum := "668b20be5e0596852a0099eda07a2c41193739234a897f3aa1f8768111758c62", func := "loop.example/g00920/laws.FnExactIntercalatesOf", spec := "fnExactIntercalatesOf", unfollowed := true, recurses := true, apart := false }
def FnExactIntercalatesOfSaid : Prop := fnExactIntercalatesOfRow.holds Try.pinned (OpenSpec.ofChange fnExactIntercalatesOfSpec)

/-- ITS FALSE NEIGHBOUR: 'it returns false'. Refute it at one input. -/
def fnExactIntercalatesOfWrong : ChangeSpec := { name := "fnExactIntercalatesOf", fn := fun _ => fun
  | [d] => { results := [.lit (.bool false)], args := [d] }
  | _ => none }
def FnExactIntercalatesOfWrongFalsely : Prop := fnExactIntercalatesOfRow.holds Try.pinned (OpenSpec.ofChange fnExactIntercalatesOfWrong)

/-- 'laws.FnExactSwitchIntercalate': WHATEVER THE INPUT: true; the input reads as it did. -/
def fnExactSwitchIntercalateSpec : ChangeSpec := { name := "fnExactSwitchIntercalate", fn := fun _ => fun
  | [d1, d2] => { results := [.lit (.bool true)], args := [d1, d2] }
  | _ => none }
def fnExactSwitchIntercalateRow : OpenClaim := { program := "ytekikbkafbpkkaa", sum := "668b20be5e0596852a0099eda07a2c41193739234a897f3aa1f8768111758c62", func := "loop.example/g00920/laws.FnExactSwitchIntercalate", spec := "fnExactSwitchIntercalate", unfollowed := true, recurses := true, apart := false }
def FnExactSwitchIntercalateSaid : Prop := fnExactSwitchIntercalateRow.holds Try.pinned (OpenSpec.ofChange fnExactSwitchIntercalateSpec)

/-- ITS FALSE NEIGHBOUR: 'it returns false'. Refute it at one input. -/
def fnExactSwitchIntercalateWrong : ChangeSpec := { name := "fnExactSwitchIntercalate", fn := fun _ => fun
  | [d1, d2] => { results := [.lit (.bool false)], args := [d1, d2] }
  | _ => none }
def FnExactSwitchIntercalateWrongFalsely : Prop := fnExactSwitchIntercalateRow.holds Try.pinned (OpenSpec.ofChange fnExactSwitchIntercalateWrong)

/-- 'laws.FnExactParitiesOf': WHATEVER THE INPUT: true; the input reads as it did. -/
def fnExactParitiesOfSpec : ChangeSpec := { name := "fnExactParitiesOf", fn := fun _ => fun
  | [d] => { results := [.lit (.bool true)], args := [d] }
  | _ => none }
def fnExactParitiesOfRow : OpenClaim := { program := "ytekikbkafbpkkaa", sum := "668b20be5e0596852a0099eda07a2c41193739234a897f3aa1f8768111758c62", func := "loop.example/g00920/laws.FnExactParitiesOf", spec := "fnExactParitiesOf", unfollowed := true, recurses := true, apart := false }
def FnExactParitiesOfSaid : Prop := fnExactParitiesOfRow.holds Try.pinned (OpenSpec.ofChange fnExactParitiesOfSpec)

/-- ITS FALSE NEIGHBOUR: 'it returns false'. Refute it at one input. -/
def fnExactParitiesOfWrong : ChangeSpec := { name := "fnExactParitiesOf", fn := fun _ => fun
  | [d] => { results := [.lit (.bool false)], args := [d] }
  | _ => none }
def FnExactParitiesOfWrongFalsely : Prop := fnExactParitiesOfRow.holds Try.pinned (OpenSpec.ofChange fnExactParitiesOfWrong)

/- THE SECOND FORM. 'bulk': how many values and letters a reading holds, each counted each time it is reached (what is shared counts as often as it is met; a slice's spare places count too). A statement '..UptoSaid' is the law's where the arguments, and the package variables that the reading takes, are together of bulk at most 1048576: NARROWER than '..Said'. Prove '..Said' where nothing that the law and all that it calls make is longer than what came in: it says more and counts as full. Else prove '..UptoSaid'. A law counts once. -/
mutual
def uptoBulk {H : Type} : DataW H → Nat
  | .lit (.string bytes) => bytes.length + 1
  | .lit _ => 1
  | .nil => 1
  | .ptr d => uptoBulk d + 1
  | .slice elems spare => uptoBulkAll elems + uptoBulkAll spare + 1
  | .agg parts => uptoBulkAll parts + 1
  | .iface _ d => uptoBulk d + 1
  | .map entries => uptoBulkEntries entries + 1
  | .held _ => 1
def uptoBulkAll {H : Type} : List (DataW H) → Nat
  | [] => 0
  | d :: r => uptoBulk d + uptoBulkAll r
def uptoBulkEntries {H : Type} : List (Lit × DataW H) → Nat
  | [] => 0
  | x :: r => uptoBulkEntry x + uptoBulkEntries r
def uptoBulkEntry {H : Type} : Lit × DataW H → Nat
  | (.string bytes, d) => bytes.length + uptoBulk d + 1
  | (_, d) => uptoBulk d + 1
 end
def uptoSmall : (H : Type) → List (DataW H) → Bool := fun _ ds => decide (uptoBulkAll ds ≤ 1048576)
def OpenSpec.upto (s : _root_.Go.ChangeSpec) : _root_.Go.OpenSpec := { _root_.Go.OpenSpec.ofChange s with cond := some uptoSmall }

/-- 'laws.FnExactIdentityName', WHERE WHAT IT READS IS OF BULK AT MOST 1048576: true; the input reads as it did. -/
def fnExactIdentityNameUptoRow : OpenClaim := { program := "ytekikbkafbpkkaa", sum := "668b20be5e0596852a0099eda07a2c41193739234a897f3aa1f8768111758c62", func := "loop.example/g00920/laws.FnExactIdentityName", spec := "fnExactIdentityName", apart := false, narrowed := true }
def FnExactIdentityNameUptoSaid : Prop := fnExactIdentityNameUptoRow.holds Try.pinned (OpenSpec.upto fnExactIdentityNameSpec)

/-- 'laws.FnExactRowMap', WHERE WHAT IT READS IS OF BULK AT MOST 1048576: true; the input reads as it did. -/
def fnExactRowMapUptoRow : OpenClaim := { program := "ytekikbkafbpkkaa", sum := "668b20be5e0596852a0099eda07a2c41193739234a897f3aa1f8768111758c62", func := "loop.example/g00920/laws.FnExactRowMap", spec := "fnExactRowMap", unfollowed := true, recurses := true, apart := false, narrowed := true }
def FnExactRowMapUptoSaid : Prop := fnExactRowMapUptoRow.holds Try.pinned (OpenSpec.upto fnExactRowMapSpec)

/-- 'laws.FnExactUnitOf', WHERE WHAT IT READS IS OF BULK AT MOST 1048576: true; the input reads as it did. -/
def fnExactUnitOfUptoRow : OpenClaim := { program := "ytekikbkafbpkkaa", sum := "668b20be5e0596852a0099eda07a2c41193739234a897f3aa1f8768111758c62", func := "loop.example/g00920/laws.FnExactUnitOf", spec := "fnExactUnitOf", unfollowed := true, recurses := true, apart := false, narrowed := true }
def FnExactUnitOfUptoSaid : Prop := fnExactUnitOfUptoRow.holds Try.pinned (OpenSpec.upto fnExactUnitOfSpec)

/-- 'laws.FnExactIsGroupBased', WHERE WHAT IT READS IS OF BULK AT MOST 1048576: true; the input reads as it did. -/
def fnExactIsGroupBasedUptoRow : OpenClaim := { program := "ytekikbkafbpkkaa", sum := "668b20be5e0596852a0099eda07a2c41193739234a897f3aa1f8768111758c62", func := "loop.example/g00920/laws.FnExactIsGroupBased", spec := "fnExactIsGroupBased", unfollowed := true, recurses := true, apart := false, narrowed := true }
def FnExactIsGroupBasedUptoSaid : Prop := fnExactIsGroupBasedUptoRow.holds Try.pinned (OpenSpec.upto fnExactIsGroupBasedSpec)

/-- 'laws.FnExactIdentitiesOf', WHERE WHAT IT READS IS OF BULK AT MOST 1048576: true; the input reads as it did. -/
def fnExactIdentitiesOfUptoRow : OpenClaim := { program := "ytekikbkafbpkkaa", sum := "668b20be5e0596852a0099eda07a2c41193739234a897f3aa1f8768111758c62", func := "loop.example/g00920/laws.FnExactIdentitiesOf", spec := "fnExactIdentitiesOf", unfollowed := true, recurses := true, apart := false, narrowed := true }
def FnExactIdentitiesOfUptoSaid : Prop := fnExactIdentitiesOfUptoRow.holds Try.pinned (OpenSpec.upto fnExactIdentitiesOfSpec)

/-- 'laws.FnExactIntercalatesOf', WHERE WHAT IT READS IS OF BULK AT MOST 1048576: true; the input reads as it did. -/
def fnExactIntercalatesOfUptoRow : OpenClaim := { program := "ytekikbkafbpkkaa", sum := "668b20be5e0596852a0099eda07a2c41193739234a897f3aa1f8768111758c62", func := "loop.example/g00920/laws.FnExactIntercalatesOf", spec := "fnExactIntercalatesOf", unfollowed := true, recurses := true, apart := false, narrowed := true }
def FnExactIntercalatesOfUptoSaid : Prop := fnExactIntercalatesOfUptoRow.holds Try.pinned (OpenSpec.upto fnExactIntercalatesOfSpec)

/-- 'laws.FnExactSwitchIntercalate', WHERE WHAT IT READS IS OF BULK AT MOST 1048576: true; the input reads as it did. -/
def fnExactSwitchIntercalateUptoRow : OpenClaim := { program := "ytekikbkafbpkkaa", sum := "668b20be5e0596852a0099eda07a2c41193739234a897f3aa1f8768111758c62", func := "loop.example/g00920/laws.FnExactSwitchIntercalate", spec := "fnExactSwitchIntercalate", unfollowed := true, recurses := true, apart := false, narrowed := true }
def FnExactSwitchIntercalateUptoSaid : Prop := fnExactSwitchIntercalateUptoRow.holds Try.pinned (OpenSpec.upto fnExactSwitchIntercalateSpec)

/-- 'laws.FnExactParitiesOf', WHERE WHAT IT READS IS OF BULK AT MOST 1048576: true; the input reads as it did. -/
def fnExactParitiesOfUptoRow : OpenClaim := { program := "ytekikbkafbpkkaa", sum := "668b20be5e0596852a0099eda07a2c41193739234a897f3aa1f8768111758c62", func := "loop.example/g00920/laws.FnExactParitiesOf", spec := "fnExactParitiesOf", unfollowed := true, recurses := true, apart := false, narrowed := true }
def FnExactParitiesOfUptoSaid : Prop := fnExactParitiesOfUptoRow.holds Try.pinned (OpenSpec.upto fnExactParitiesOfSpec)

end Rows
end Go.Proofs.Ytekikbkafbpkkaa
