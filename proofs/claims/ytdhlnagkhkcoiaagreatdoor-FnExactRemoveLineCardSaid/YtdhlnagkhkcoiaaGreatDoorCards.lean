/-
  DERIVED. GIVEN WITH THE SEED: THE CARDS: each row of YtdhlnagkhkcoiaaGreatDoorRows.lean that lists a variable, with what it lists TIED to the program's text (the seventh form; the later family's looks); each row that meets fmt, with fmt's text TOLD by the authors' own Lean function (tested against real Go, not proved from fmt's source: count such statements apart). THE CARD IS WHAT COUNTS. Prove the row's statement (the work); the ties are given (YtdhlnagkhkcoiaaGreatDoorTie.lean); close each card by the builder's one call (the guide's Derived/Test/ToyasCard.lean, 'card_holds'). Laid BY PROGRAM, IN A SANDBOX (cutbox-door.mjs). By AI agents, Wed Nov 11 2026. No macro, syntax, notation, axiom, sorry.
-/
import Derived.Test.YtdhlnagkhkcoiaaGreatDoorRows
import GoSem.ClaimSeven
namespace Go.Proofs.YtdhlnagkhkcoiaaGreatDoor
namespace Rows

/-- THE TIED CARD OF 'laws.FnExactCompletePlane'. -/
def fnExactCompletePlaneCard : Claim7 := { stood := { row := fnExactCompletePlaneRow, standIns := [], harness := (true, "7cbbc1fbc323754ac4865a80008d7a215744534f0f4dd70145b3539800ec1d99"), looks := true }, kinds := [], alts := [], laidByText := true, laidKinds := [.data], laidTests := true, laidLooks := .later }
def FnExactCompletePlaneCardSaid : Prop := Claim7.holds Tryz.pinned (.plain (OpenSpec.ofChange fnExactCompletePlaneSpec)) fnExactCompletePlaneCard

/-- THE TIED CARD OF 'laws.FnExactRemoveLine'. -/
def fnExactRemoveLineCard : Claim7 := { stood := { row := fnExactRemoveLineRow, standIns := [], harness := (true, "7cbbc1fbc323754ac4865a80008d7a215744534f0f4dd70145b3539800ec1d99"), looks := true }, kinds := [], alts := [], laidByText := true, laidKinds := [.data], laidTests := true, laidLooks := .later }
def FnExactRemoveLineCardSaid : Prop := Claim7.holds Tryz.pinned (.plain (OpenSpec.ofChange fnExactRemoveLineSpec)) fnExactRemoveLineCard

/-- THE SECOND FORM's CARD OF 'laws.FnExactCompletePlane'. -/
def fnExactCompletePlaneUptoCard : Claim7 := { stood := { row := fnExactCompletePlaneUptoRow, standIns := [], harness := (true, "7cbbc1fbc323754ac4865a80008d7a215744534f0f4dd70145b3539800ec1d99"), looks := true }, kinds := [], alts := [], laidByText := true, laidKinds := [.data], laidTests := true, laidLooks := .later }
def FnExactCompletePlaneUptoCardSaid : Prop := Claim7.holds Tryz.pinned (.plain (OpenSpec.upto fnExactCompletePlaneSpec)) fnExactCompletePlaneUptoCard

/-- THE SECOND FORM's CARD OF 'laws.FnExactRemoveLine'. -/
def fnExactRemoveLineUptoCard : Claim7 := { stood := { row := fnExactRemoveLineUptoRow, standIns := [], harness := (true, "7cbbc1fbc323754ac4865a80008d7a215744534f0f4dd70145b3539800ec1d99"), looks := true }, kinds := [], alts := [], laidByText := true, laidKinds := [.data], laidTests := true, laidLooks := .later }
def FnExactRemoveLineUptoCardSaid : Prop := Claim7.holds Tryz.pinned (.plain (OpenSpec.upto fnExactRemoveLineSpec)) fnExactRemoveLineUptoCard
end Rows
end Go.Proofs.YtdhlnagkhkcoiaaGreatDoor
