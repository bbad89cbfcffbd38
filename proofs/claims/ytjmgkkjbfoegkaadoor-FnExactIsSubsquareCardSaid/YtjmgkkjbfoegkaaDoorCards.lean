/-
  DERIVED. GIVEN WITH THE SEED: THE CARDS: each row of YtjmgkkjbfoegkaaDoorRows.lean that lists a variable, with what it lists TIED to the program's text (the seventh form; the later family's looks); each row that meets fmt, with fmt's text TOLD by the authors' own Lean function (tested against real Go, not proved from fmt's source: count such statements apart). THE CARD IS WHAT COUNTS. Prove the row's statement (the work); the ties are given (YtjmgkkjbfoegkaaDoorTie.lean); close each card by the builder's one call (the guide's Derived/Test/ToyasCard.lean, 'card_holds'). Laid BY PROGRAM, IN A SANDBOX (cutbox-door.mjs). By AI agents, Wed Nov 11 2026. No macro, syntax, notation, axiom, sorry.
-/
import Derived.Test.YtjmgkkjbfoegkaaDoorRows
import GoSem.ClaimSeven
namespace Go.Proofs.YtjmgkkjbfoegkaaDoor
namespace Rows

/-- THE TIED CARD OF 'laws.FnExactClosureIn'. -/
def fnExactClosureInCard : Claim7 := { stood := { row := fnExactClosureInRow, standIns := [], harness := (true, "c3450ae3d647ab8dda46b045e3b699144376a94e8ab56d232745bf74dae1b559"), looks := false }, kinds := [], alts := [], laidByText := true, laidKinds := [.data], laidTests := true, laidLooks := .later }
def FnExactClosureInCardSaid : Prop := Claim7.holds Tryd.pinned (.plain (OpenSpec.ofChange fnExactClosureInSpec)) fnExactClosureInCard

/-- THE TIED CARD OF 'laws.FnExactIsSubsquare'. -/
def fnExactIsSubsquareCard : Claim7 := { stood := { row := fnExactIsSubsquareRow, standIns := [], harness := (true, "c3450ae3d647ab8dda46b045e3b699144376a94e8ab56d232745bf74dae1b559"), looks := false }, kinds := [], alts := [], laidByText := true, laidKinds := [.data], laidTests := true, laidLooks := .later }
def FnExactIsSubsquareCardSaid : Prop := Claim7.holds Tryd.pinned (.plain (OpenSpec.ofChange fnExactIsSubsquareSpec)) fnExactIsSubsquareCard

/-- THE TIED CARD OF 'laws.FnExactCandidatesAt'. -/
def fnExactCandidatesAtCard : Claim7 := { stood := { row := fnExactCandidatesAtRow, standIns := [], harness := (true, "c3450ae3d647ab8dda46b045e3b699144376a94e8ab56d232745bf74dae1b559"), looks := false }, kinds := [], alts := [], laidByText := true, laidKinds := [.data], laidTests := true, laidLooks := .later }
def FnExactCandidatesAtCardSaid : Prop := Claim7.holds Tryd.pinned (.plain (OpenSpec.ofChange fnExactCandidatesAtSpec)) fnExactCandidatesAtCard

/-- THE SECOND FORM's CARD OF 'laws.FnExactClosureIn'. -/
def fnExactClosureInUptoCard : Claim7 := { stood := { row := fnExactClosureInUptoRow, standIns := [], harness := (true, "c3450ae3d647ab8dda46b045e3b699144376a94e8ab56d232745bf74dae1b559"), looks := false }, kinds := [], alts := [], laidByText := true, laidKinds := [.data], laidTests := true, laidLooks := .later }
def FnExactClosureInUptoCardSaid : Prop := Claim7.holds Tryd.pinned (.plain (OpenSpec.upto fnExactClosureInSpec)) fnExactClosureInUptoCard

/-- THE SECOND FORM's CARD OF 'laws.FnExactIsSubsquare'. -/
def fnExactIsSubsquareUptoCard : Claim7 := { stood := { row := fnExactIsSubsquareUptoRow, standIns := [], harness := (true, "c3450ae3d647ab8dda46b045e3b699144376a94e8ab56d232745bf74dae1b559"), looks := false }, kinds := [], alts := [], laidByText := true, laidKinds := [.data], laidTests := true, laidLooks := .later }
def FnExactIsSubsquareUptoCardSaid : Prop := Claim7.holds Tryd.pinned (.plain (OpenSpec.upto fnExactIsSubsquareSpec)) fnExactIsSubsquareUptoCard

/-- THE SECOND FORM's CARD OF 'laws.FnExactCandidatesAt'. -/
def fnExactCandidatesAtUptoCard : Claim7 := { stood := { row := fnExactCandidatesAtUptoRow, standIns := [], harness := (true, "c3450ae3d647ab8dda46b045e3b699144376a94e8ab56d232745bf74dae1b559"), looks := false }, kinds := [], alts := [], laidByText := true, laidKinds := [.data], laidTests := true, laidLooks := .later }
def FnExactCandidatesAtUptoCardSaid : Prop := Claim7.holds Tryd.pinned (.plain (OpenSpec.upto fnExactCandidatesAtSpec)) fnExactCandidatesAtUptoCard
end Rows
end Go.Proofs.YtjmgkkjbfoegkaaDoor
